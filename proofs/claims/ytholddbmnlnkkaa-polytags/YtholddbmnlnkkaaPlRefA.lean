/-
  What mailcoachref05.add answers.
-/
import Derived.Test.YtholddbmnlnkkaaPlRefC
import Derived.BigRegion
namespace Go.Proofs.Ytholddbmnlnkkaa
open Go Go.RowKit

/-- 34 places 0. -/
def z34 : List Nat := List.replicate 34 0
theorem gn_z34 (i : Nat) : gn z34 i = 0 := by
  unfold gn z34
  rw [List.getElem?_replicate]
  split <;> rfl
theorem nK_add (a b c : List Nat) (k : Nat) (h : ∀ i, i < k → gn c i = gn a i + gn b i) : nK c k = nK a k + nK b k := by
  induction k with
  | zero => rfl
  | succ k ih =>
    rw [show nK c (k + 1) = nK c k + gn c k * 256 ^ k from rfl, ih (fun i hi => h i (by omega)), h k (by omega), show nK a (k + 1) = nK a k + gn a k * 256 ^ k from rfl, show nK b (k + 1) = nK b k + gn b k * 256 ^ k from rfl, Nat.add_mul]
    omega
theorem nK_out (a : List Nat) (k : Nat) (h : a.length ≤ k) : nK a k = nV a := by
  unfold nV
  have : ∀ d, nK a (a.length + d) = nK a a.length := by
    intro d
    induction d with
    | zero => rfl
    | succ d ih =>
      rw [show a.length + (d + 1) = (a.length + d) + 1 by omega, show nK a (a.length + d + 1) = nK a (a.length + d) + gn a (a.length + d) * 256 ^ (a.length + d) from rfl, ih, gn_out (by omega), Nat.zero_mul, Nat.add_zero]
  rw [show k = a.length + (k - a.length) by omega, this]
theorem made_vn (n : Nat) : (madeCells (Value.int .u64 0).cells (n * 1)).toList = vn (List.replicate n 0) := by
  apply List.ext_getElem
  · simp [madeCells, vn]
  · intro j h1 h2
    simp [madeCells, vn, Value.cells, Nat.mod_one]

/-- A row of the call's own that is full. -/
theorem own_row {w : World} {base g n : Nat} {xs : List Nat} (h : w.ownsRow base 37 1 (.slice (some ⟨g, 0, none⟩) n n) n (vn xs)) : Row w g 37 (ns xs) := by
  rcases h.2 with ⟨h1, _⟩ | ⟨g', c', cur, h1, _, h3, _, _, h6, h7⟩
  · cases h1
  · simp only [Value.slice.injEq, Option.some.injEq, Addr.mk.injEq, and_true, true_and] at h1
    obtain ⟨rfl, rfl⟩ := h1
    rw [List.take_of_length_le (by rw [Array.length_toList, h6]; exact Nat.le_refl _)] at h7
    have e : cur = ns xs := by
      apply Array.ext'
      rw [h7]
      rfl
    rw [e] at h3
    exact h3
theorem NOk.of_row {w : World} {g n : Nat} {t : TypeId} {xs : List Nat} (h : Row w g t (ns xs)) (hn : xs.length = n) : NOk w g n xs := ⟨hn, h.lt, fun j hj => h.cellN (by omega)⟩

set_option maxRecDepth 20000 in
set_option maxHeartbeats 1000000 in
theorem refAdd_any (ga na ca : Nat) (a : List Nat) (gb' nb' cb : Nat) (b : List Nat) (w : World) (ha : NOk w ga na a) (hb : NOk w gb' nb' b) (hna : na ≤ 34) (hnb : nb' ≤ 34) (hA : ∀ i, gn a i ≤ 255) (hB : ∀ i, gn b i ≤ 255) :
    Calls Try.prog 24 #[.slice (some ⟨ga, 0, none⟩) na ca, .slice (some ⟨gb', 0, none⟩) nb' cb] w fun e w' => ∃ v, e = .returned v ∧ w'.ownsRow w.heap.size 37 1 v 34 (vn (dig (nV a + nV b) 34)) ∧ Below w.heap.size w w' := by
  obtain ⟨i0, hi, hz0, hz1, hz2⟩ := info_parts (P := Try.prog) (e := 37) (z := .int .u64 0) (size := 1) (bytes := 8) (by kernel_rfl)
  have HA := veil ha
  have HB := veil hb
  have HAb := veil hA
  have HBb := veil hB
  clear ha hb hA hB
  go_enter Try.func24, Try.ntmps24
  go_wp2_with (with_reducible (show wpList _ _ _ (⟨_, Op.makeSlice _ _ _, _, _, _, _⟩ :: _) _ _)
               refine wpList_make_full w rfl _ _ 48 rfl w.heap.size 37 i0 (.int .u64 0) 1 Try.underlying48 hi hz0 hz1 .i64 .i64 34 34 34 rfl rfl rfl rfl (by rw [hz2]; decide) (by unfold maxLen; decide) (Nat.le_refl _) ?_
               intro w6 own6 grow6)
  rw [made_vn] at own6
  have r6 : Row w6 w.heap.size 37 (ns z34) := own_row own6
  have b6 : Below w.heap.size w w6 := (Below.refl _ w).grown grow6 (Nat.le_refl _) (fun q e => by cases e)
  clear own6 grow6
  go_loopw [6] (fun iv wr => ∃ (k : Nat) (zs : List Nat), k ≤ na ∧ iv = .int .i64 k ∧ Hid (zs.length = 34) ∧ Hid (∀ i, gn zs i = if i < k then gn a i else 0) ∧ Row wr w.heap.size 37 (ns zs) ∧ Below w.heap.size w wr)
    (fun iv _ => na - (intOf iv).toNat)
  case atStart => exact ⟨0, z34, by omega, rfl, rfl, fun i => by rw [if_neg (by omega), gn_z34], r6, b6⟩
  case round =>
    clear r6 b6
    obtain ⟨k, zs, hk, rfl, HL, HE, rZ, hbel⟩ := hrel
    by_cases hlt : k < na
    · have hdk : decide ((k : Int) < (na : Int)) = true := by simp; omega
      have cx := (HA.out.below hbel).cell k hlt
      have cz := rZ.cellN (j := k) (by rw [HL.out]; omega)
      have fz := rZ.frozen k
      rw [HE.out k, if_neg (by omega)] at cz
      obtain ⟨x, hxe⟩ : ∃ x, x = gn a k := ⟨_, rfl⟩
      have hxb : x ≤ 255 := by rw [hxe]; exact HAb.out k
      rw [← hxe] at cx
      have HX := veil hxe
      have hgne : Hid (ga ≠ w.heap.size) := show _ ≠ _ by have := HA.out.lt; omega
      have hp : (0 : Int) ≤ (k : Int) ∧ (k : Int) < 34 := by omega
      have hp2 : (0 : Int) ≤ (k : Int) ∧ (k : Int) < (na : Int) := by omega
      clear hxe
      go_wp2
      go_region
      go_wp2
      go_roundw
      case rel =>
        have qZ := rZ.set k (.int .u64 (x : Int))
        rw [ns_set] at qZ
        refine ⟨k + 1, _, by omega, by go_num, ?_, ?_, qZ, Below.drew (hbel.setCell (p := ⟨w.heap.size, k, none⟩) (Nat.le_refl _) _)⟩
        · show List.length _ = 34
          rw [List.length_set]; exact HL.out
        · intro i
          rw [gn_set, HE.out i, HX.out, HL.out]
          by_cases hi : k = i ∧ i < 34
          · rw [if_pos hi, if_pos (by omega), hi.1]
          · rw [if_neg hi]
            by_cases h2 : i < k
            · rw [if_pos h2, if_pos (by omega)]
            · rw [if_neg h2, if_neg (by omega)]
      case measure => simp [intOf]; omega
    · have hdk : decide ((k : Int) < (na : Int)) = false := by simp; omega
      rw [show k = na by omega] at HE
      have HE2 : Hid (∀ i, gn zs i = gn a i) := show ∀ i, gn zs i = gn a i from fun i => by
        rw [HE.out i]
        split
        · rfl
        · rw [gn_out (by rw [HA.out.len]; omega)]
      clear HE
      go_wp2
      go_loopw [7] (fun iv wr => ∃ (k : Nat) (ys : List Nat), k ≤ nb' ∧ iv = .int .i64 k ∧ Hid (ys.length = 34) ∧ Hid (∀ i, gn ys i = gn a i + if i < k then gn b i else 0) ∧ Row wr w.heap.size 37 (ns ys) ∧ Below w.heap.size w wr)
        (fun iv _ => nb' - (intOf iv).toNat)
      case atStart => exact ⟨0, zs, by omega, rfl, HL, fun i => by rw [if_neg (by omega), Nat.add_zero, HE2.out], rZ, hbel⟩
      case round =>
        clear rZ hbel HL HE2 hdk
        obtain ⟨k, ys, hk, rfl, HL, HE, rZ, hbel⟩ := hrel
        by_cases hlt : k < nb'
        · have hdk : decide ((k : Int) < (nb' : Int)) = true := by simp; omega
          have cx := (HB.out.below hbel).cell k hlt
          have cz := rZ.cellN (j := k) (by rw [HL.out]; omega)
          have fz := rZ.frozen k
          rw [HE.out k, if_neg (by omega), Nat.add_zero] at cz
          obtain ⟨x, hxe⟩ : ∃ x, x = gn b k := ⟨_, rfl⟩
          have hxb : x ≤ 255 := by rw [hxe]; exact HBb.out k
          rw [← hxe] at cx
          obtain ⟨y, hye⟩ : ∃ y, y = gn a k := ⟨_, rfl⟩
          have hyb : y ≤ 255 := by rw [hye]; exact HAb.out k
          rw [← hye] at cz
          have HX := veil hxe
          have HYy := veil hye
          have hp : (0 : Int) ≤ (k : Int) ∧ (k : Int) < 34 := by omega
          have hp2 : (0 : Int) ≤ (k : Int) ∧ (k : Int) < (nb' : Int) := by omega
          have E1 : Hid ((y : Int) + (x : Int) = ((y + x : Nat) : Int)) := show _ = _ by omega
          clear hxe hye
          go_wp2
          go_region
          go_wp2
          go_roundw
          case rel =>
            rw [E1.out]
            have qZ := rZ.set k (.int .u64 ((y + x : Nat) : Int))
            rw [ns_set] at qZ
            refine ⟨k + 1, _, by omega, by go_num, ?_, ?_, qZ, Below.drew (hbel.setCell (p := ⟨w.heap.size, k, none⟩) (Nat.le_refl _) _)⟩
            · show List.length _ = 34
              rw [List.length_set]; exact HL.out
            · intro i
              rw [gn_set, HE.out i, HX.out, HYy.out, HL.out]
              by_cases hi : k = i ∧ i < 34
              · rw [if_pos hi, if_pos (by omega), hi.1]
              · rw [if_neg hi]
                by_cases h2 : i < k
                · rw [if_pos h2, if_pos (by omega)]
                · rw [if_neg h2, if_neg (by omega)]
          case measure => simp [intOf]; omega
        · have hdk : decide ((k : Int) < (nb' : Int)) = false := by simp; omega
          rw [show k = nb' by omega] at HE
          have HE2 : Hid (∀ i, gn ys i = gn a i + gn b i) := show ∀ i, gn ys i = gn a i + gn b i from fun i => by
            rw [HE.out i]
            split
            · rfl
            · rw [gn_out (xs := b) (by rw [HB.out.len]; omega)]
          have HV : Hid (nV ys = nV a + nV b) := show _ = _ by
            rw [← nK_out ys 34 (by rw [HL.out]; omega), ← nK_out a 34 (by rw [HA.out.len]; exact hna), ← nK_out b 34 (by rw [HB.out.len]; exact hnb)]
            exact nK_add a b ys 34 (fun i _ => HE2.out i)
          have HC : Hid (∀ i, gn ys i ≤ 1152921504606846976) := show ∀ i, gn ys i ≤ 1152921504606846976 from fun i => by
            rw [HE2.out i]
            have h1 := HAb.out i
            have h2 := HBb.out i
            omega
          have HNO := veil (NOk.of_row rZ HL.out)
          clear HE HE2
          go_wp2_with fail
          refine (refCarried_any w.heap.size 34 ys wr HNO.out HC.out).mono ?_
          rintro e8 w8 ⟨v8', rfl, own8, hb8⟩
          have own9 := own_low own8 hbel.size
          rw [HV.out] at own9
          go_wp2
          go_ret
          exact ⟨_, rfl, own9, hbel.trans (hb8.mono hbel.size)⟩
end Go.Proofs.Ytholddbmnlnkkaa
