/-
  Out of PlRefR, PlRefL, PlRefT.
-/
import Derived.Test.YtbheoldakmcppaaGreatDoorGs36

/-! What mailcoachref05.R answers. -/
namespace Go.Proofs.YtbheoldakmcppaaGreatDoor
open Go Go.RowKit

theorem and15 (b : By) : (b &&& 15).toNat = b.toNat % 16 := by
  rw [BitVec.toNat_and]
  exact Nat.and_two_pow_sub_one_eq_mod b.toNat 4
theorem and252 (b : By) : (b &&& 252).toNat = b.toNat - b.toNat % 4 := by
  have h : ∀ x : Fin 256, x.1 &&& 252 = x.1 - x.1 % 4 := by decide +kernel
  rw [BitVec.toNat_and]
  exact h ⟨b.toNat, b.isLt⟩
theorem half_get (key : List By) (hk : key.length = 32) (i : Nat) : gn (dig (leN (key.take 16)) 17) i = if i < 16 then (gb key i).toNat else 0 := by
  have e : leN (key.take 16) = leK (key.take 16) 16 := by unfold leN; rw [List.length_take, hk]; rfl
  by_cases h : i < 16
  · rw [if_pos h, dig_get _ _ _ (by omega), e, leK_div _ _ _ h, gb_take _ _ _ h]
  · rw [if_neg h]
    by_cases h2 : i < 17
    · rw [show i = 16 by omega, dig_get _ _ _ (by omega), e, Nat.div_eq_of_lt (leK_lt _ _)]
    · rw [gn_out (by rw [dig_length]; omega)]
theorem dig_r (key : List By) (zs : List Nat) (hl : zs.length = 17) (h : ∀ i, gn zs i = if i < 16 then (clB key i).toNat else 0) : zs = dig (rN key) 17 := by
  have e := dig_of zs 17 hl (fun i => by
    rw [h i]
    split
    · have := (clB key i).isLt; omega
    · omega)
  have e2 : nV zs = rN key := by
    rw [← nK_out zs 17 (by omega), show nK zs 17 = nK zs 16 + gn zs 16 * 256 ^ 16 from rfl, h 16, if_neg (by omega), Nat.zero_mul, Nat.add_zero]
    exact nK_leK (clL key) zs 16 (fun i hi => by rw [h i, if_pos hi, clL_get _ _ hi])
  rw [e2] at e
  exact e

set_option maxRecDepth 20000 in
set_option maxHeartbeats 2000000 in
theorem refR_any (key : List By) (hk : key.length = 32) (w : World) :
    Calls Tryz.prog 158 #[.agg (bs key)] w fun e w' => e = .returned (.slice (some ⟨w.heap.size + 1, 0, none⟩) 17 17) ∧ Row w' (w.heap.size + 1) 23 (ns (dig (rN key) 17)) ∧ Below w.heap.size w w' := by
  have HK := veil hk
  have hsl := slice_ok (Row.new w 78 (bs key)) 0 16 32 (by rw [hk]; omega) (by omega)
  rw [List.drop_zero] at hsl
  have HSL := veil hsl
  have HH := veil (half_get key hk)
  clear hk hsl
  go_enter Tryz.func158, Tryz.ntmps158
  go_wp2_with fail
  refine (refNumber_any _ false _ HSL.out (by show 16 ≤ 16; omega)).mono ?_
  rintro e1 w1 ⟨rfl, r1, hb1⟩
  have hz : dig (leN (SL.mk (some ⟨w.heap.size, 0, none⟩) 16 32 w.heap.size 0 (key.take 16)).b + if false = true then 256 ^ (SL.mk (some ⟨w.heap.size, 0, none⟩) 16 32 w.heap.size 0 (key.take 16)).len else 0) 17 = dig (leN (key.take 16)) 17 := by rw [if_neg (by simp), Nat.add_zero]
  rw [hz] at r1
  have b1 : Below w.heap.size w w1 := ((Below.refl _ w).alloc (Nat.le_refl _) _).trans (hb1.mono (by simp))
  have r1' : Row w1 (w.heap.size + 1) 23 (ns (dig (leN (key.take 16)) 17)) := by
    have := r1
    rw [World.size_alloc] at this
    exact this
  clear r1 hb1 hz HSL
  simp only [World.size_alloc]
  go_wp2_with fail
  go_loopw [4] (fun iv wr => ∃ (i : Nat) (zs : List Nat), i ≤ 19 ∧ i % 4 = 3 ∧ iv = .int .i64 i ∧ Hid (zs.length = 17) ∧ Hid (∀ j, gn zs j = if j < 16 then (if j % 4 = 3 ∧ j < i then (gb key j).toNat % 16 else (gb key j).toNat) else 0) ∧ Row wr (w.heap.size + 1) 23 (ns zs) ∧ Below w.heap.size w wr)
    (fun iv _ => 19 - (intOf iv).toNat)
  case atStart =>
    refine ⟨3, _, by omega, rfl, rfl, dig_length _ _, fun j => ?_, r1', b1⟩
    rw [HH.out j]
    split
    · rw [if_neg (by omega)]
    · rfl
  case round =>
    clear r1' b1
    obtain ⟨i, zs, hi, hi4, rfl, HL, HE, rZ, hbel⟩ := hrel
    by_cases h16 : i < 16
    · have hdk : decide ((i : Int) < 16) = true := by simp; omega
      have cz := rZ.cellN (j := i) (by rw [HL.out]; omega)
      have fz := rZ.frozen i
      rw [HE.out i, if_pos h16, if_neg (by omega)] at cz
      obtain ⟨x, hxe⟩ : ∃ x, x = (gb key i).toNat := ⟨_, rfl⟩
      have hx8 : x < 256 := by rw [hxe]; exact (gb key i).isLt
      rw [← hxe] at cz
      have HX := veil hxe
      have hp : (0 : Int) ≤ (i : Int) ∧ (i : Int) < 17 := by omega
      have E1 : Hid ((x : Int) % 16 = ((x % 16 : Nat) : Int)) := show _ = _ by omega
      clear hxe
      go_wp2
      go_roundw
      case rel =>
        rw [E1.out]
        have qZ := rZ.set i (.int .u64 ((x % 16 : Nat) : Int))
        rw [ns_set] at qZ
        refine ⟨i + 4, _, by omega, by omega, by go_num, ?_, ?_, qZ, hbel.setCell (p := ⟨w.heap.size + 1, i, none⟩) (by show w.heap.size ≤ w.heap.size + 1; omega) _⟩
        · show List.length _ = 17
          rw [List.length_set]; exact HL.out
        · intro j
          rw [gn_set, HL.out, HE.out j, HX.out]
          by_cases hj : i = j ∧ j < 17
          · rw [if_pos hj, if_pos (by omega), if_pos (by omega), hj.1]
          · rw [if_neg hj]
            by_cases h6 : j < 16
            · rw [if_pos h6, if_pos h6]
              by_cases h2 : j % 4 = 3 ∧ j < i
              · rw [if_pos h2, if_pos (by omega)]
              · rw [if_neg h2, if_neg (by omega)]
            · rw [if_neg h6, if_neg h6]
      case measure => simp [intOf]; omega
    · have hdk : decide ((i : Int) < 16) = false := by simp; omega
      rw [show i = 19 by omega] at HE
      go_wp2
      go_loopw [5] (fun iv wr => ∃ (i : Nat) (zs : List Nat), i ≤ 16 ∧ i % 4 = 0 ∧ 4 ≤ i ∧ iv = .int .i64 i ∧ Hid (zs.length = 17) ∧ Hid (∀ j, gn zs j = if j < 16 then (if j % 4 = 3 then (gb key j).toNat % 16 else if (j % 4 = 0 ∧ 0 < j) ∧ j < i then (gb key j).toNat - (gb key j).toNat % 4 else (gb key j).toNat) else 0) ∧ Row wr (w.heap.size + 1) 23 (ns zs) ∧ Below w.heap.size w wr)
        (fun iv _ => 16 - (intOf iv).toNat)
      case atStart =>
        refine ⟨4, zs, by omega, rfl, by omega, rfl, HL, fun j => ?_, rZ, hbel⟩
        rw [HE.out j]
        by_cases h6 : j < 16
        · rw [if_pos h6, if_pos h6]
          by_cases h3 : j % 4 = 3
          · rw [if_pos h3, if_pos ⟨h3, by omega⟩]
          · rw [if_neg h3, if_neg (fun e => h3 e.1), if_neg (by omega)]
        · rw [if_neg h6, if_neg h6]
      case round =>
        clear HL HE rZ hbel hdk
        obtain ⟨i, zs, hi, hi4, hi0, rfl, HL, HE, rZ, hbel⟩ := hrel
        by_cases h16 : i < 16
        · have hdk : decide ((i : Int) < 16) = true := by simp; omega
          have cz := rZ.cellN (j := i) (by rw [HL.out]; omega)
          have fz := rZ.frozen i
          rw [HE.out i, if_pos h16, if_neg (by omega), if_neg (by omega)] at cz
          obtain ⟨x, hxe⟩ : ∃ x, x = (gb key i).toNat := ⟨_, rfl⟩
          have hx8 : x < 256 := by rw [hxe]; exact (gb key i).isLt
          rw [← hxe] at cz
          have HX := veil hxe
          have hp : (0 : Int) ≤ (i : Int) ∧ (i : Int) < 17 := by omega
          have E1 : Hid ((x : Int) - (x : Int) % 4 = ((x - x % 4 : Nat) : Int)) := show _ = _ by omega
          clear hxe
          go_wp2
          go_region
          go_wp2
          go_roundw
          case rel =>
            rw [E1.out]
            have qZ := rZ.set i (.int .u64 ((x - x % 4 : Nat) : Int))
            rw [ns_set] at qZ
            refine ⟨i + 4, _, by omega, by omega, by omega, by go_num, ?_, ?_, qZ, Below.drew (hbel.setCell (p := ⟨w.heap.size + 1, i, none⟩) (by show w.heap.size ≤ w.heap.size + 1; omega) _)⟩
            · show List.length _ = 17
              rw [List.length_set]; exact HL.out
            · intro j
              rw [gn_set, HL.out, HE.out j, HX.out]
              by_cases hj : i = j ∧ j < 17
              · rw [if_pos hj, if_pos (by omega), if_neg (by omega), if_pos (by omega), hj.1]
              · rw [if_neg hj]
                by_cases h6 : j < 16
                · rw [if_pos h6, if_pos h6]
                  by_cases h3 : j % 4 = 3
                  · rw [if_pos h3, if_pos h3]
                  · rw [if_neg h3, if_neg h3]
                    by_cases h2 : (j % 4 = 0 ∧ 0 < j) ∧ j < i
                    · rw [if_pos h2, if_pos (by omega)]
                    · rw [if_neg h2, if_neg (by omega)]
                · rw [if_neg h6, if_neg h6]
          case measure => simp [intOf]; omega
        · have hdk : decide ((i : Int) < 16) = false := by simp; omega
          rw [show i = 16 by omega] at HE
          have HR : Hid (zs = dig (rN key) 17) := show _ = _ from dig_r key zs HL.out (fun j => by
            rw [HE.out j]
            by_cases h6 : j < 16
            · rw [if_pos h6, if_pos h6]
              unfold clB
              by_cases h3 : j % 4 = 3
              · rw [if_pos h3, if_pos h3, and15]
              · rw [if_neg h3, if_neg h3]
                by_cases h2 : j % 4 = 0 ∧ 0 < j
                · rw [if_pos ⟨h2, h6⟩, if_pos h2, and252]
                · rw [if_neg (fun e => h2 e.1), if_neg h2]
            · rw [if_neg h6, if_neg h6])
          clear HE
          go_wp2
          go_ret
          exact ⟨rfl, by rw [← HR.out]; exact rZ, hbel⟩
end Go.Proofs.YtbheoldakmcppaaGreatDoor

/-! What mailcoachref05.Left answers. -/
namespace Go.Proofs.YtbheoldakmcppaaGreatDoor
open Go Go.RowKit

theorem fold_mod (v : Nat) : foldN v % PP = v % PP := by
  unfold foldN PP
  omega
theorem fold_lt (v : Nat) (h : v < 256 ^ 34) : foldN v < 256 ^ 34 := by
  have e : (256 : Nat) ^ 34 = 7588550360256754183279148073529370729071901715047420004889892225542594864082845696 := by decide
  rw [e] at *
  unfold foldN
  omega
def foldK (v : Nat) : Nat → Nat
  | 0 => v
  | k + 1 => foldN (foldK v k)
theorem foldK_mod (v : Nat) : ∀ k, foldK v k % PP = v % PP
  | 0 => rfl
  | k + 1 => by rw [show foldK v (k + 1) = foldN (foldK v k) from rfl, fold_mod, foldK_mod v k]
theorem foldK_lt (v : Nat) (h : v < 256 ^ 34) : ∀ k, foldK v k < 256 ^ 34
  | 0 => h
  | k + 1 => fold_lt _ (foldK_lt v h k)
theorem foldK_four (v : Nat) (h : v < 256 ^ 34) : foldK v 4 < 1361129467683753853853498429727072845824 := by
  have e : (256 : Nat) ^ 34 = 7588550360256754183279148073529370729071901715047420004889892225542594864082845696 := by decide
  rw [e] at h
  have h1 : foldK v 1 < 27875930627072 * 1361129467683753853853498429727072845824 := by
    show foldN v < _
    unfold foldN
    omega
  have h2 : foldK v 2 < 1361129467683753853853498429727072845824 + 139379653135360 := by
    show foldN (foldK v 1) < _
    unfold foldN
    omega
  have h3 : foldK v 3 < 1361129467683753853853498429727072845824 := by
    show foldN (foldK v 2) < _
    unfold foldN
    omega
  show foldN (foldK v 3) < _
  unfold foldN
  omega

theorem ownN {w : World} {base n : Nat} {v : Value} {xs : List Value} (h : w.ownsRow base 23 1 v n xs) (hn : 0 < n) : ∃ g c, v = .slice (some ⟨g, 0, none⟩) n c := by
  rcases h.2 with ⟨_, rfl⟩ | ⟨g, c, cur, rfl, _⟩
  · omega
  · exact ⟨g, c, rfl⟩
theorem own_cur {w : World} {base g n cap : Nat} {xs : List Nat} (h : w.ownsRow base 23 1 (.slice (some ⟨g, 0, none⟩) n cap) n (vn xs)) : ∃ cur, Row w g 23 cur ∧ n ≤ cap ∧ cur.size = cap ∧ base ≤ g ∧ ∀ j, j < n → cur[j]? = some (.int .u64 (gn xs j : Int)) := by
  have hl : xs.length = n := by have := h.1; rw [vn_length] at this; omega
  rcases h.2 with ⟨h1, _⟩ | ⟨g', c', cur, h1, h2, h3, h4, _, h6, h7⟩
  · cases h1
  · simp only [Value.slice.injEq, Option.some.injEq, Addr.mk.injEq, and_true, true_and] at h1
    obtain ⟨rfl, rfl⟩ := h1
    refine ⟨cur, h3, h4, by omega, h2, fun j hj => ?_⟩
    have := vn_get xs j (by omega)
    rw [← h7, List.getElem?_take, if_pos (by omega)] at this
    simpa using this
theorem NOk.cut {w : World} {g n m v : Nat} (h : NOk w g n (dig v n)) (hm : m ≤ n) : NOk w g m (dig v m) :=
  ⟨dig_length _ _, h.lt, fun j hj => by rw [h.cell j (by omega), dig_get _ _ _ (by omega), dig_get _ _ _ hj]⟩
theorem five_list : nV [5] = 5 := by decide
theorem left_low (v : Nat) (hu : foldK v 4 + 5 < 1361129467683753853853498429727072845824) : foldK v 4 = v % PP := by
  rw [← foldK_mod v 4]
  exact (Nat.mod_eq_of_lt (by unfold PP; omega)).symm
theorem left_high (v : Nat) (h : v < 256 ^ 34) (hu : 1361129467683753853853498429727072845824 ≤ foldK v 4 + 5) : foldK v 4 + 5 = v % PP + 4 * 256 ^ 16 ∧ v % PP < 5 := by
  have h4 := foldK_four v h
  have e : (256 : Nat) ^ 16 = 340282366920938463463374607431768211456 := by decide
  rw [← foldK_mod v 4, e]
  unfold PP
  omega
theorem left_digit (x j : Nat) (hj : j < 16) : (x + 4 * 256 ^ 16) / 256 ^ j % 256 = x / 256 ^ j % 256 := dig_stable x 4 hj

set_option maxRecDepth 20000 in
set_option maxHeartbeats 2000000 in
theorem refLeft_any (ga ca : Nat) (v : Nat) (hv : v < 256 ^ 34) (w : World) (ha : NOk w ga 34 (dig v 34)) (hca : 34 ≤ ca) :
    Calls Tryz.prog 161 #[.slice (some ⟨ga, 0, none⟩) 34 ca] w fun e w' => ∃ g c, e = .returned (.slice (some ⟨g, 0, none⟩) 17 c) ∧ NOk w' g 17 (dig (v % PP) 17) ∧ Below w.heap.size w w' := by
  have HA := veil ha
  have HV := veil hv
  clear ha hv
  go_enter Tryz.func161, Tryz.ntmps161
  go_wp2_with fail
  go_loopw [0, 3] (fun av iv wr => ∃ (k g c : Nat), k ≤ 4 ∧ iv = .int .i64 k ∧ av = .slice (some ⟨g, 0, none⟩) 34 c ∧ NOk wr g 34 (dig (foldK v k) 34) ∧ 34 ≤ c ∧ Below w.heap.size w wr)
    (fun _ iv _ => 4 - (intOf iv).toNat)
  case atStart => exact ⟨0, ga, ca, by omega, rfl, rfl, HA.out, hca, Below.refl _ _⟩
  case round =>
    obtain ⟨k, g, c, hk, rfl, rfl, hN, hc, hbel⟩ := hrel
    have HN := veil hN
    have hs := hbel.size
    clear hN
    by_cases h4 : k < 4
    · have hdk : decide ((k : Int) < 4) = true := by simp; omega
      go_wp2_with fail
      refine (refFold_any g c (foldK v k) (foldK_lt v HV.out k) wr HN.out).mono ?_
      rintro e2 w2 ⟨x2, rfl, own2, hb2⟩
      obtain ⟨g2, c2, rfl⟩ := ownN own2 (by decide)
      have hN2 := NOk.of_own own2
      obtain ⟨_, _, hc2, _⟩ := own_cur own2
      have b2 := hbel.trans (hb2.mono hs)
      clear own2 hb2
      go_wp2
      go_roundw
      case rel => exact ⟨k + 1, g2, c2, by omega, by go_num, rfl, hN2, hc2, b2⟩
      case measure => simp [intOf]; omega
    · have hdk : decide ((k : Int) < 4) = false := by simp; omega
      rw [show k = 4 by omega] at HN
      have h4u := foldK_four v HV.out
      obtain ⟨u, hu⟩ : ∃ u, u = foldK v 4 := ⟨_, rfl⟩
      have HU := veil hu
      rw [← hu] at h4u HN
      have e34 : (256 : Nat) ^ 34 = 7588550360256754183279148073529370729071901715047420004889892225542594864082845696 := by decide
      have HNV : Hid (nV (dig u 34) = u) := show _ = _ from nV_dig u 34 (by rw [e34]; omega)
      have rF : Row (wr.alloc (.cells (ns [5]) 23)) wr.heap.size 23 (ns [5]) := Row.new _ _ _
      have HF := veil (NOk.of_row rF (n := 1) rfl)
      have HN' := veil (HN.out.below ((Below.refl _ wr).alloc (Nat.le_refl _) (.cells (ns [5]) 23)))
      have bF := hbel.alloc hs (.cells (ns [5]) 23)
      have H5 : Hid (∀ i, gn [5] i ≤ 255) := show ∀ i, gn [5] i ≤ 255 from fun i => by
        match i with
        | 0 => decide
        | i + 1 => rw [gn_out (by simp)]; omega
      have H255 : Hid (∀ i, gn (dig u 34) i ≤ 255) := show ∀ i, gn (dig u 34) i ≤ 255 from fun i => by have := dig_lt u 34 i; omega
      clear hu rF e34
      go_wp2_with fail
      refine (refAdd_any g 34 c (dig u 34) wr.heap.size 1 1 [5] _ HN'.out HF.out (by omega) (by omega) H255.out H5.out).mono ?_
      rintro e3 w3 ⟨x3, rfl, own3, hb3⟩
      rw [HNV.out, five_list] at own3
      obtain ⟨g3, c3, rfl⟩ := ownN own3 (by decide)
      obtain ⟨cur, r3, hc3, hcs, hg3, hcur⟩ := own_cur own3
      have hb3' := bF.trans (hb3.mono (by simp; omega))
      have HN3 := veil (HN'.out.below hb3)
      have HCUR := veil hcur
      have c16 : w3.cell? ⟨g3, 16, none⟩ = some (.int .u64 (gn (dig (u + 5) 34) 16 : Int)) := (r3.cell 16).trans (hcur 16 (by omega))
      rw [dig_get _ _ _ (by omega)] at c16
      have f16 := r3.frozen 16
      have e16 : (256 : Nat) ^ 16 = 340282366920938463463374607431768211456 := by decide
      obtain ⟨d, hd⟩ : ∃ d, d = (u + 5) / 256 ^ 16 % 256 := ⟨_, rfl⟩
      have hdb : d ≤ 4 ∧ (4 ≤ d ↔ 1361129467683753853853498429727072845824 ≤ u + 5) := by
        rw [hd, e16]
        omega
      rw [← hd] at c16
      have HD := veil hd
      have HBIG := veil hdb.2
      have hd4 := hdb.1
      have hgb : w.heap.size ≤ g3 := by simp at hg3; omega
      clear own3 hb3 hcur hd hdb HN' HF bF HNV
      by_cases hge : 4 ≤ d
      · have hdd : decide ((4 : Int) ≤ (d : Int)) = true := by simp; omega
        obtain ⟨hx1, hx2⟩ := left_high v HV.out (by rw [← HU.out]; exact HBIG.out.1 hge)
        rw [← HU.out] at hx1
        obtain ⟨x, hx⟩ : ∃ x, x = v % PP := ⟨_, rfl⟩
        rw [← hx] at hx1 hx2
        have q3 := r3.set 16 (.int .u64 0)
        have HR : Hid (NOk (w3.setCell ⟨g3, 16, none⟩ (.int .u64 0)) g3 17 (dig (v % PP) 17)) := show NOk _ _ _ _ from ⟨dig_length _ _, q3.lt, fun j hj => by
          rw [q3.cell j, Array.getElem?_setIfInBounds, dig_get _ _ _ hj, ← hx]
          by_cases hj6 : 16 = j
          · subst hj6
            rw [if_pos rfl, if_pos (by omega), e16, Nat.div_eq_of_lt (by omega)]
            rfl
          · rw [if_neg hj6, HCUR.out j (by omega), dig_get _ _ _ (by omega), hx1, left_digit _ _ (by omega)]⟩
        have kb := hb3'.setCell (p := ⟨g3, 16, none⟩) hgb (.int .u64 0)
        have E1 : (d : Int) - 4 = 0 := by omega
        have hcc : (17 : Int) ≤ (c3 : Int) := by omega
        clear hx1 hx2 hx
        go_wp2
        go_ret
        exact ⟨g3, c3, rfl, HR.out, kb⟩
      · have hdd : decide ((4 : Int) ≤ (d : Int)) = false := by simp; omega
        have e := left_low v (by rw [← HU.out]; have := HBIG.out; omega)
        rw [← HU.out] at e
        have HR : Hid (NOk w3 g 17 (dig (v % PP) 17)) := show NOk _ _ _ _ by rw [← e]; exact HN3.out.cut (by omega)
        have hcc : (17 : Int) ≤ (c : Int) := by omega
        clear e
        go_wp2
        go_ret
        exact ⟨g, c, rfl, HR.out, hb3'⟩
end Go.Proofs.YtbheoldakmcppaaGreatDoor

/-! What mailcoachref05.Tag answers. -/
namespace Go.Proofs.YtbheoldakmcppaaGreatDoor
open Go Go.RowKit

theorem builtinW {P : Program} {ops : Array Oper} {rest : List Oper} {o : Oper} {a : Act} {w : World} {Q : Exit → Act → World → Prop} (hgd : o.guard = none) (v : Value)
    (he : (execOp a.eval o).run P w = .ok (.value v) w) (h : wpList P ops Q rest (a.put o.dst v) w) : wpList P ops Q (o :: rest) a w :=
  wpList_plain hgd fun _ hK => by
    unfold Oper.wp
    rw [he]
    exact hK _ _ h
theorem acc_lt (r : Nat) (xs : List Wn) : accW r xs < PP := by
  rcases List.eq_nil_or_concat xs with rfl | ⟨ys, y, rfl⟩
  · show 0 < PP
    decide
  · rw [List.concat_eq_append, accW_snoc]
    exact Nat.mod_lt _ (by decide)
theorem dig_le (v k i : Nat) : gn (dig v k) i ≤ 255 := by
  have := dig_lt v k i
  omega

set_option maxRecDepth 20000 in
set_option maxHeartbeats 4000000 in
theorem refTag_any (key : List By) (hk : key.length = 32) (q : SL) (w : World) (hq : q.Ok w) (hl : q.len ≤ 4194304) :
    Calls Tryz.prog 127 #[.agg (bs key), .slice q.a q.len q.cap] w fun e w' => e = .returned (.tuple #[.agg (bs (tagL key q.b)), .int .i64 0]) ∧ Below w.heap.size w w' := by
  obtain ⟨i0, hi, hz0, hz1, hz2⟩ := info_parts (P := Tryz.prog) (e := 23) (z := .int .u64 0) (size := 1) (bytes := 8) (by kernel_rfl)
  have HK := veil hk
  have HQ := veil hq
  have hks : (bs key).size = 32 := by rw [bs_size, hk]
  have hgt : decide ((4194304 : Int) < (q.len : Int)) = false := by simp; omega
  have rk0 : Row ((w.alloc (.cells (bs key) 78)).alloc (.cells (bs z16) 83)) w.heap.size 78 (bs key) := (Row.new _ _ _).alloc _
  clear hk hq
  go_enter Tryz.func127, Tryz.ntmps127
  go_wp2_with (first
    | (with_reducible (show wpList _ _ _ (⟨_, Op.alloc 83, _, _, _, _⟩ :: _) _ _)
       refine alloc_row rfl 83 rfl (bs z16) (by kernel_rfl) ?_)
    | (with_reducible (show wpList _ _ _ (⟨some 18, Op.load 78 _, _, _, _, _⟩ :: _) _ _)
       refine load_row rfl 78 _ rfl w.heap.size rfl _ _ rk0 32 5 Tryz.underlying78 (by kernel_rfl) hks ?_))
  obtain ⟨w0, hw0⟩ : ∃ w0, w0 = (w.alloc (.cells (bs key) 78)).alloc (.cells (bs z16) 83) := ⟨_, rfl⟩
  have ro : Row w0 (w.heap.size + 1) 83 (bs z16) := by rw [hw0]; exact Row.new1 _ _ _ _
  have b0 : Below w.heap.size w w0 := by rw [hw0]; exact ((Below.refl _ w).alloc (Nat.le_refl _) _).alloc (by simp) _
  have hs0 : w0.heap.size = w.heap.size + 2 := by rw [hw0]; simp
  rw [← hw0] at rk0 ⊢
  clear hw0
  clear hgt
  refine (refR_any key HK.out w0).mono ?_
  rintro e1 w1 ⟨rfl, rR, hb1⟩
  rw [hs0] at rR ⊢
  have rk1 := rk0.below hb1 rk0.lt
  have ro1 := ro.below hb1 ro.lt
  have b1 := b0.trans (hb1.mono b0.size)
  have hl1 := rR.lt
  clear hb1 rk0 ro b0
  go_wp2_with (with_reducible (show wpList _ _ _ (⟨_, Op.makeSlice _ _ _, _, _, _, _⟩ :: _) _ _)
               refine wpList_make_full w1 rfl _ _ 96 rfl w1.heap.size 23 i0 (.int .u64 0) 1 Tryz.underlying96 hi hz0 hz1 .i64 .i64 17 17 17 rfl rfl rfl rfl (by rw [hz2]; decide) (by unfold maxLen; decide) (Nat.le_refl _) ?_
               intro w2 own2 grow2)
  rw [made_vn] at own2
  have r2 : Row w2 w1.heap.size 23 (ns z17) := own_row own2
  have hb2 : Below w1.heap.size w1 w2 := (Below.refl _ w1).grown grow2 (Nat.le_refl _) (fun q e => by cases e)
  have rk2 := rk1.below hb2 rk1.lt
  have ro2 := ro1.below hb2 ro1.lt
  have rR2 := rR.below hb2 rR.lt
  have b2 := b1.trans (hb2.mono b1.size)
  clear own2 grow2 hb2 rk1 ro1 rR b1
  go_loopw [7, 8] (fun av iv wr => ∃ (i g c : Nat), 16 * i < q.len + 16 ∧ iv = .int .i64 ((16 * i : Nat) : Int) ∧ av = .slice (some ⟨g, 0, none⟩) 17 c ∧ NOk wr g 17 (dig (accW (rN key) (partsTo q.b i)) 17) ∧ Row wr w.heap.size 78 (bs key) ∧ Row wr (w.heap.size + 1) 83 (bs z16) ∧ Row wr (w.heap.size + 2 + 1) 23 (ns (dig (rN key) 17)) ∧ Below w.heap.size w wr)
    (fun _ iv _ => q.len + 16 - (intOf iv).toNat)
  case atStart =>
    refine ⟨0, w1.heap.size, 17, by omega, rfl, rfl, ?_, rk2, ro2, rR2, b2⟩
    rw [show dig (accW (rN key) (partsTo q.b 0)) 17 = z17 by
      rw [show accW (rN key) (partsTo q.b 0) = 0 from rfl]
      decide +kernel]
    exact NOk.of_row r2 rfl
  case round =>
    clear r2 rk2 ro2 rR2 b2
    obtain ⟨i, g, c, hi6, rfl, rfl, hN, rK, rO, rR, hbel⟩ := hrel
    have HN := veil hN
    have HRR := veil rR
    have HRK := veil rK
    have HRO := veil rO
    have hlR := rR.lt
    have hs := hbel.size
    have hA := acc_lt (rN key) (partsTo q.b i)
    clear hN rR rK rO
    by_cases hlt : 16 * i < q.len
    · have hdk : decide (((16 * i : Nat) : Int) < (q.len : Int)) = true := by simp; omega
      obtain ⟨m, hm⟩ : ∃ m, m = min 16 (q.len - 16 * i) := ⟨_, rfl⟩
      have hm16 : m ≤ 16 := by omega
      have hmN : 16 * i + m ≤ q.len := by omega
      have hqw := HQ.out.below hbel
      have e := hqw.at_ (by omega)
      have hcap := hqw.hcap
      have HOK := veil (part_ok hqw i m hlt hm)
      have HM := veil hm
      clear hm hqw
      rw [e]
      go_wp2_with (with_reducible (show wpList _ _ _ (⟨some 33, Op.call _, _, _, _, _⟩ :: _) _ _)
                   refine builtinW rfl (.int .i64 ((16 * i + m : Nat) : Int)) ?hmin ?_
                   case hmin => (go_simp; have := HM.out; split <;> omega))
      have hw16 : IntKind.i64.wrap (16 * (i : Int) + 16) = 16 * (i : Int) + 16 := by rw [IntKind.wrap_i64]; omega
      clear hl
      refine (refNumber_any (SL.mk (some ⟨q.g, q.off + 16 * i, none⟩) m (q.cap - 16 * i) q.g (q.off + 16 * i) (partAt q.b i)) true wr HOK.out hm16).mono ?_
      rintro e4 w4 ⟨rfl, rP, hb4⟩
      obtain ⟨p, hp⟩ : ∃ p, p = partN (partAt q.b i) := ⟨_, rfl⟩
      have hpl := HOK.out.hb
      have hpe : leN (partAt q.b i) + 256 ^ m = p := by
        rw [hp]
        unfold partN
        rw [show (partAt q.b i).length = m from hpl]
      have hpb : p < 680564733841876926926749214863536422912 := by
        rw [hp]
        exact partN_lt _ (by rw [show (partAt q.b i).length = m from hpl]; exact hm16)
      rw [if_pos rfl] at rP
      rw [show leN (SL.mk (some ⟨q.g, q.off + 16 * i, none⟩) m (q.cap - 16 * i) q.g (q.off + 16 * i) (partAt q.b i)).b + 256 ^ (SL.mk (some ⟨q.g, q.off + 16 * i, none⟩) m (q.cap - 16 * i) q.g (q.off + 16 * i) (partAt q.b i)).len = p from hpe] at rP
      have HACC : Hid (accW (rN key) (partsTo q.b (i + 1)) = (accW (rN key) (partsTo q.b i) + p) * rN key % PP) := show _ = _ by
        rw [partsTo_succ, accW_snoc, show (toW (partN (partAt q.b i))).1 = w26 (partN (partAt q.b i)) from rfl, ← hp, V5_w26 _ (by omega)]
      obtain ⟨A, hAe⟩ : ∃ A, A = accW (rN key) (partsTo q.b i) := ⟨_, rfl⟩
      rw [← hAe] at hA HACC HN
      have hr := rN_lt key
      have e17 : (256 : Nat) ^ 17 = 87112285931760246646623899502532662132736 := by decide
      have e34 : (256 : Nat) ^ 34 = 7588550360256754183279148073529370729071901715047420004889892225542594864082845696 := by decide
      have hPP : PP = 1361129467683753853853498429727072845819 := rfl
      have HV1 : Hid (nV (dig A 17) = A) := show _ = _ from nV_dig A 17 (by rw [e17]; omega)
      have HV2 : Hid (nV (dig p 17) = p) := show _ = _ from nV_dig p 17 (by rw [e17]; omega)
      have HV3 : Hid (nV (dig (A + p) 17) = A + p) := show _ = _ from nV_dig (A + p) 17 (by rw [e17]; omega)
      have HV4 : Hid (nV (dig (rN key) 17) = rN key) := show _ = _ from nV_dig (rN key) 17 (by rw [e17]; omega)
      have HV5 : Hid ((A + p) * rN key < 256 ^ 34) := show _ < _ by
        have h1 : (A + p) * rN key ≤ 2722258935367507707706996859454145691648 * 1361129467683753853853498429727072845824 := Nat.mul_le_mul (by omega) (by omega)
        rw [e34]
        omega
      have HN4 := veil (HN.out.below hb4)
      have HP4 := veil (NOk.of_row rP (dig_length _ _))
      have b4 := hbel.trans (hb4.mono hs)
      have HR4 := veil (HRR.out.below hb4 HRR.out.lt)
      have HK4 := veil (HRK.out.below hb4 HRK.out.lt)
      have HO4 := veil (HRO.out.below hb4 HRO.out.lt)
      clear rP hb4 hp hpe hpl hAe HN HRR HRK HRO hbel HOK HM e17 e34 hPP hr hA hpb
      go_wp2_with fail
      refine (refAdd_any g 17 c (dig A 17) wr.heap.size 17 17 (dig p 17) w4 HN4.out HP4.out (by omega) (by omega) (dig_le _ _) (dig_le _ _)).mono ?_
      rintro e5 w5 ⟨x5, rfl, own5, hb5⟩
      rw [HV1.out, HV2.out] at own5
      obtain ⟨g5, c5, rfl⟩ := ownN own5 (by decide)
      obtain ⟨_, _, hc5, _⟩ := own_cur own5
      have HN5 := veil ((NOk.of_own own5).cut (m := 17) (by omega))
      have b5 := b4.trans (hb5.mono b4.size)
      have HR5 := veil (HR4.out.below hb5 HR4.out.lt)
      have HK5 := veil (HK4.out.below hb5 HK4.out.lt)
      have HO5 := veil (HO4.out.below hb5 HO4.out.lt)
      have hcc5 : (17 : Int) ≤ (c5 : Int) := by omega
      clear own5 hb5 HN4 HP4 b4 HR4 HK4 HO4
      go_wp2_with fail
      refine (refMul_any g5 c5 (dig (A + p) 17) (w.heap.size + 2 + 1) 17 (dig (rN key) 17) w5 HN5.out (NOk.of_row HR5.out (dig_length _ _)) (dig_le _ _) (dig_le _ _)).mono ?_
      rintro e6 w6 ⟨x6, rfl, own6, hb6⟩
      rw [HV3.out, HV4.out] at own6
      obtain ⟨g6, c6, rfl⟩ := ownN own6 (by decide)
      obtain ⟨_, _, hc6, _⟩ := own_cur own6
      have HN6 := veil (NOk.of_own own6)
      have b6 := b5.trans (hb6.mono b5.size)
      have HR6 := veil (HR5.out.below hb6 HR5.out.lt)
      have HK6 := veil (HK5.out.below hb6 HK5.out.lt)
      have HO6 := veil (HO5.out.below hb6 HO5.out.lt)
      clear own6 hb6 HN5 b5 HR5 HK5 HO5
      go_wp2_with fail
      refine (refLeft_any g6 c6 ((A + p) * rN key) HV5.out w6 HN6.out hc6).mono ?_
      rintro e7 w7 ⟨g7, c7, rfl, hN7, hb7⟩
      rw [← HACC.out] at hN7
      have b7 := b6.trans (hb7.mono b6.size)
      have HR7 := HR6.out.below hb7 HR6.out.lt
      have HK7 := HK6.out.below hb7 HK6.out.lt
      have HO7 := HO6.out.below hb7 HO6.out.lt
      clear hb7 HN6 b6 HR6 HK6 HO6
      go_wp2
      go_roundw
      case rel => exact ⟨i + 1, g7, c7, by omega, by go_num, rfl, hN7, HK7, HO7, HR7, b7⟩
      case measure => simp only [intOf]; omega
    · have hdk : decide (16 * (i : Int) < (q.len : Int)) = false := by simp; omega
      have HE : Hid (np q.b.length = i) := show _ = _ by rw [HQ.out.hb]; unfold np; omega
      clear hl
      obtain ⟨A, hAe⟩ : ∃ A, A = accW (rN key) (partsTo q.b i) := ⟨_, rfl⟩
      rw [← hAe] at hA HN
      have hsb := sN_lt128 key HK.out
      have e17 : (256 : Nat) ^ 17 = 87112285931760246646623899502532662132736 := by decide
      have hPP : PP = 1361129467683753853853498429727072845819 := rfl
      have HV1 : Hid (nV (dig A 17) = A) := show _ = _ from nV_dig A 17 (by rw [e17]; omega)
      have HV2 : Hid (nV (dig (sN key) 17) = sN key) := show _ = _ from nV_dig (sN key) 17 (by rw [e17]; omega)
      have HT : Hid (by16 (A + sN key) = tagL key q.b) := show _ = _ by
        unfold tagL tagN
        rw [HE.out, ← hAe]
        exact by16_mod (by rw [Nat.mod_mod])
      have HSL := veil (slice_ok HRK.out 16 16 16 (by rw [HK.out]; omega) (by omega))
      clear hAe e17 hPP hA hsb HE
      go_wp2_with fail
      refine (refNumber_any _ false wr HSL.out (by show 16 ≤ 16; omega)).mono ?_
      rintro e4 w4 ⟨rfl, rP, hb4⟩
      rw [if_neg (by simp), Nat.add_zero, show leN (SL.mk (some ⟨w.heap.size, 16, none⟩) 16 16 w.heap.size 16 ((key.drop 16).take 16)).b = sN key from rfl] at rP
      have HN4 := veil (HN.out.below hb4)
      have HP4 := veil (NOk.of_row rP (dig_length _ _))
      have b4 := hbel.trans (hb4.mono hs)
      have HO4 := veil (HRO.out.below hb4 HRO.out.lt)
      clear rP hb4 HN HRR HRK HRO hbel HSL
      go_wp2_with fail
      refine (refAdd_any g 17 c (dig A 17) wr.heap.size 17 17 (dig (sN key) 17) w4 HN4.out HP4.out (by omega) (by omega) (dig_le _ _) (dig_le _ _)).mono ?_
      rintro e5 w5 ⟨x5, rfl, own5, hb5⟩
      rw [HV1.out, HV2.out] at own5
      obtain ⟨g5, c5, rfl⟩ := ownN own5 (by decide)
      have HN5 := veil (NOk.of_own own5)
      have b5 := b4.trans (hb5.mono b4.size)
      have HO5 := veil (HO4.out.below hb5 HO4.out.lt)
      have hlo := HO5.out.lt
      have hs5 := b5.size
      clear own5 hb5 HN4 HP4 b4 HO4
      go_wp2_with (with_reducible (show wpList _ _ _ (⟨some 12, Op.alloc 83, _, _, _, _⟩ :: _) _ _)
                   refine alloc_row rfl 83 rfl (bs z16) (by kernel_rfl) ?_)
      go_loopw [13] (fun iv wr => ∃ (k : Nat) (zs : List By), k ≤ 16 ∧ iv = .int .i64 k ∧ Hid (zs.length = 16) ∧ Hid (∀ j, j < k → gb zs j = byteAt (A + sN key) j) ∧ NOk wr g5 34 (dig (A + sN key) 34) ∧ Row wr (w.heap.size + 1) 83 (bs z16) ∧ Row wr w5.heap.size 83 (bs zs) ∧ Below w.heap.size w wr)
        (fun iv _ => 16 - (intOf iv).toNat)
      case atStart => exact ⟨0, z16, by omega, rfl, rfl, fun j hj => by omega, HN5.out.below ((Below.refl _ w5).alloc (Nat.le_refl _) _), HO5.out.alloc _, Row.new _ _ _, b5.alloc b5.size _⟩
      case round =>
        have hg5 := HN5.out.lt
        clear HN5 HO5 b5 hdk
        obtain ⟨k, zs, hk, rfl, HL, HD, hN, rO, rZ, hbel⟩ := hrel
        by_cases h16 : k < 16
        · have hdk : decide ((k : Int) < 16) = true := by simp; omega
          have cx := hN.cell k (by omega)
          rw [dig_get _ _ _ (by omega)] at cx
          have cz := rZ.cellB (j := k) (by rw [HL.out]; exact h16)
          have fz := rZ.frozen k
          generalize v8 (gb zs k) = y0 at cz
          obtain ⟨x, hxe⟩ : ∃ x, x = (A + sN key) / 256 ^ k % 256 := ⟨_, rfl⟩
          have hx8 : x < 256 := by rw [hxe]; exact Nat.mod_lt _ (by decide)
          rw [← hxe] at cx
          have HX : Hid ((x : Int) = v8 (byteAt (A + sN key) k)) := show _ = _ by rw [v8_byteAt, hxe]
          have hw8 : IntKind.u8.wrap (x : Int) = (x : Int) := by rw [IntKind.wrap_u8]; omega
          have hp2 : (0 : Int) ≤ (k : Int) ∧ (k : Int) < 34 := by omega
          have HNV := veil hN
          clear hxe hN
          go_wp2
          go_roundw
          case rel =>
            rw [HX.out]
            have q0 := rZ.set k (.int .u8 (v8 (byteAt (A + sN key) k)))
            rw [bs_set] at q0
            refine ⟨k + 1, _, by omega, by go_num, ?_, ?_, ⟨HNV.out.len, by simp [World.setCell]; exact HNV.out.lt, fun j hj => ?_⟩, rO.other (by show w.heap.size + 1 ≠ w5.heap.size; omega) _, q0, hbel.setCell (p := ⟨w5.heap.size, k, none⟩) (by show w.heap.size ≤ w5.heap.size; omega) _⟩
            · show List.length _ = 16
              rw [List.length_set]; exact HL.out
            · intro j hj
              rw [gb_set _ (by rw [HL.out]; exact h16)]
              split
              · rename_i h; rw [h]
              · exact HD.out j (by omega)
            · rw [World.cell?_of_block (w := wr) (heap_setCell_other wr ⟨w5.heap.size, k, none⟩ g5 _ (by show g5 ≠ w5.heap.size; omega))]
              exact HNV.out.cell j hj
          case measure => simp [intOf]; omega
        · have hdk : decide ((k : Int) < 16) = false := by simp; omega
          rw [show k = 16 by omega] at HD
          have e := by16_of HL.out HD.out
          rw [HT.out] at e
          have hsz : (bs zs).size = 16 := by rw [bs_size, HL.out]
          have HE := veil e
          clear e hN
          go_wp2_with (first
            | (with_reducible (show wpList _ _ _ (⟨some 59, Op.load 83 _, _, _, _, _⟩ :: _) _ _)
               refine load_row rfl 83 _ rfl w5.heap.size rfl _ _ rZ 16 5 Tryz.underlying83 (by kernel_rfl) hsz ?_)
            | (with_reducible (show wpList _ _ _ (⟨_, Op.store 83 (.tmp 4) _, _, _, _, _⟩ :: _) _ _)
               refine store_row rfl 83 _ _ rfl (w.heap.size + 1) (bs zs) rfl rfl _ _ rO 16 (by kernel_rfl) rfl hsz (bs_one _) ?_))
          refine bodyPost_ret (result_row_tmp rfl _ _ (w.heap.size + 1) _ _ (rO.put _) 16 5 (.int .i64 0) rfl rfl Tryz.underlying83 (by kernel_rfl) hsz) rfl ⟨by rw [HE.out], bSetRow hbel (by omega) _⟩
end Go.Proofs.YtbheoldakmcppaaGreatDoor
