/-
  What mailcoachref05.mul answers.
-/
import Derived.Test.YtholddbmnlnkkaaPlRefA
namespace Go.Proofs.Ytholddbmnlnkkaa
open Go Go.RowKit

theorem nK_set (zs : List Nat) (m x : Nat) (hm : m < zs.length) : ∀ K, nK (zs.set m (gn zs m + x)) K = nK zs K + if m < K then x * 256 ^ m else 0
  | 0 => by rw [if_neg (by omega)]; rfl
  | K + 1 => by
    rw [show nK (zs.set m (gn zs m + x)) (K + 1) = nK (zs.set m (gn zs m + x)) K + gn (zs.set m (gn zs m + x)) K * 256 ^ K from rfl, nK_set zs m x hm K, show nK zs (K + 1) = nK zs K + gn zs K * 256 ^ K from rfl]
    by_cases h : m = K
    · subst h
      rw [if_neg (by omega), if_pos (by omega), gn_set_same hm, Nat.add_mul]
      omega
    · rw [gn_set_ne h]
      by_cases h2 : m < K
      · rw [if_pos h2, if_pos (by omega)]
        omega
      · rw [if_neg h2, if_neg (by omega)]
        omega
/-- The sum, when all below (i, k) is in it. -/
def Qik (a b : List Nat) (i k : Nat) : Nat := nK a i * nK b 17 + gn a i * 256 ^ i * nK b k
theorem Qik_step (a b : List Nat) (i k : Nat) : Qik a b i (k + 1) = Qik a b i k + gn a i * gn b k * 256 ^ (i + k) := by
  unfold Qik
  rw [show nK b (k + 1) = nK b k + gn b k * 256 ^ k from rfl, Nat.mul_add, Nat.pow_add, ← Nat.add_assoc]
  congr 1
  simp only [Nat.mul_assoc, Nat.mul_left_comm]
theorem Qik_next (a b : List Nat) (i : Nat) : Qik a b (i + 1) 0 = Qik a b i 17 := by
  unfold Qik
  rw [show nK b 0 = 0 from rfl, Nat.mul_zero, Nat.add_zero, show nK a (i + 1) = nK a i + gn a i * 256 ^ i from rfl, Nat.add_mul]
theorem Qik_all (a b : List Nat) : Qik a b 17 0 = nK a 17 * nK b 17 := by
  unfold Qik
  rw [show nK b 0 = 0 from rfl, Nat.mul_zero, Nat.add_zero]

set_option maxRecDepth 20000 in
set_option maxHeartbeats 2000000 in
theorem refMul_any (ga ca : Nat) (a : List Nat) (gb' cb : Nat) (b : List Nat) (w : World) (ha : NOk w ga 17 a) (hb : NOk w gb' 17 b) (hA : ∀ i, gn a i ≤ 255) (hB : ∀ i, gn b i ≤ 255) :
    Calls Try.prog 26 #[.slice (some ⟨ga, 0, none⟩) 17 ca, .slice (some ⟨gb', 0, none⟩) 17 cb] w fun e w' => ∃ v, e = .returned v ∧ w'.ownsRow w.heap.size 37 1 v 34 (vn (dig (nV a * nV b) 34)) ∧ Below w.heap.size w w' := by
  obtain ⟨i0, hi, hz0, hz1, hz2⟩ := info_parts (P := Try.prog) (e := 37) (z := .int .u64 0) (size := 1) (bytes := 8) (by kernel_rfl)
  have HA := veil ha
  have HB := veil hb
  have HAb := veil hA
  have HBb := veil hB
  clear ha hb hA hB
  go_enter Try.func26, Try.ntmps26
  go_wp2_with (with_reducible (show wpList _ _ _ (⟨_, Op.makeSlice _ _ _, _, _, _, _⟩ :: _) _ _)
               refine wpList_make_full w rfl _ _ 48 rfl w.heap.size 37 i0 (.int .u64 0) 1 Try.underlying48 hi hz0 hz1 .i64 .i64 34 34 34 rfl rfl rfl rfl (by rw [hz2]; decide) (by unfold maxLen; decide) (Nat.le_refl _) ?_
               intro w6 own6 grow6)
  rw [made_vn] at own6
  have r6 : Row w6 w.heap.size 37 (ns z34) := own_row own6
  have b6 : Below w.heap.size w w6 := (Below.refl _ w).grown grow6 (Nat.le_refl _) (fun q e => by cases e)
  clear own6 grow6
  go_loopw [6] (fun iv wr => ∃ (i : Nat) (zs : List Nat), i ≤ 17 ∧ iv = .int .i64 i ∧ Hid (zs.length = 34) ∧ Hid (∀ m, gn zs m ≤ 17 * i * 65025) ∧ Hid (nK zs 34 = Qik a b i 0) ∧ Row wr w.heap.size 37 (ns zs) ∧ Below w.heap.size w wr)
    (fun iv _ => 17 - (intOf iv).toNat)
  case atStart =>
    refine ⟨0, z34, by omega, rfl, rfl, fun m => by rw [gn_z34]; omega, ?_, r6, b6⟩
    show _ = _
    rw [show Qik a b 0 0 = 0 by simp [Qik, nK]]
    decide +kernel
  case round =>
    clear r6 b6
    obtain ⟨i, zs, hi7, rfl, HL, HM, HE, rZ, hbel⟩ := hrel
    by_cases h17 : i < 17
    · have hdk : decide ((i : Int) < 17) = true := by simp; omega
      go_wp2
      go_loopw [7] (fun kv wr => ∃ (k : Nat) (zs : List Nat), k ≤ 17 ∧ kv = .int .i64 k ∧ Hid (zs.length = 34) ∧ Hid (∀ m, gn zs m ≤ (17 * i + k) * 65025) ∧ Hid (nK zs 34 = Qik a b i k) ∧ Row wr w.heap.size 37 (ns zs) ∧ Below w.heap.size w wr)
        (fun kv _ => 17 - (intOf kv).toNat)
      case atStart => exact ⟨0, zs, by omega, rfl, HL, HM, HE, rZ, hbel⟩
      case round =>
        clear HL HM HE rZ hbel zs
        obtain ⟨k, zs, hk7, rfl, HL, HM, HE, rZ, hbel⟩ := hrel
        by_cases hk17 : k < 17
        · have hdk2 : decide ((k : Int) < 17) = true := by simp; omega
          have ca := (HA.out.below hbel).cell i h17
          have cb := (HB.out.below hbel).cell k hk17
          have cz := rZ.cellN (j := i + k) (by rw [HL.out]; omega)
          have fz := rZ.frozen (i + k)
          obtain ⟨x, hxe⟩ : ∃ x, x = gn a i := ⟨_, rfl⟩
          obtain ⟨y, hye⟩ : ∃ y, y = gn b k := ⟨_, rfl⟩
          have hx8 : x ≤ 255 := by rw [hxe]; exact HAb.out i
          have hy8 : y ≤ 255 := by rw [hye]; exact HBb.out k
          rw [← hxe] at ca
          rw [← hye] at cb
          obtain ⟨z, hz⟩ : ∃ z, z = x * y := ⟨_, rfl⟩
          have hzb : z ≤ 65025 := by rw [hz]; exact Nat.mul_le_mul hx8 hy8
          obtain ⟨v, hve⟩ : ∃ v, v = gn zs (i + k) := ⟨_, rfl⟩
          have HVB : Hid (v ≤ (17 * i + k) * 65025) := show _ ≤ _ by rw [hve]; exact HM.out _
          have hvb : v ≤ 18792225 := Nat.le_trans HVB.out (Nat.mul_le_mul_right 65025 (show 17 * i + k ≤ 289 by omega))
          rw [← hve] at cz
          have hmul : IntKind.u64.wrap ((x : Int) * (y : Int)) = (z : Int) := by
            rw [show (x : Int) * (y : Int) = (z : Int) by rw [hz, Int.natCast_mul], IntKind.wrap_u64]
            omega
          have HN : Hid (nK (zs.set (i + k) (v + z)) 34 = Qik a b i (k + 1)) := show _ = _ by
            rw [hve, nK_set zs (i + k) z (by rw [HL.out]; omega), if_pos (by omega), HE.out, Qik_step, hz, hxe, hye]
          have HM' : Hid (∀ m, gn (zs.set (i + k) (v + z)) m ≤ (17 * i + (k + 1)) * 65025) := show ∀ m, gn (zs.set (i + k) (v + z)) m ≤ (17 * i + (k + 1)) * 65025 from fun m => by
            rw [gn_set]
            split
            · rw [← Nat.add_assoc, Nat.add_mul, Nat.one_mul]
              exact Nat.add_le_add HVB.out hzb
            · exact Nat.le_trans (HM.out m) (Nat.mul_le_mul_right _ (by omega))
          have E1 : Hid ((v : Int) + (z : Int) = ((v + z : Nat) : Int)) := show _ = _ by omega
          have hp1 : (0 : Int) ≤ (i : Int) ∧ (i : Int) < 17 := by omega
          have hp2 : (0 : Int) ≤ (k : Int) ∧ (k : Int) < 17 := by omega
          have hp3 : (0 : Int) ≤ (i : Int) + (k : Int) ∧ (i : Int) + (k : Int) < 34 := by omega
          clear hz hxe hye hve
          go_wp2
          go_region
          go_wp2
          go_roundw
          case rel =>
            rw [E1.out]
            have q3 := rZ.set (i + k) (.int .u64 ((v + z : Nat) : Int))
            rw [ns_set] at q3
            refine ⟨k + 1, _, by omega, by go_num, ?_, HM', HN, q3, Below.drew (hbel.setCell (p := ⟨w.heap.size, i + k, none⟩) (Nat.le_refl _) _)⟩
            show List.length _ = 34
            rw [List.length_set]; exact HL.out
          case measure => simp [intOf]; omega
        · have hdk2 : decide ((k : Int) < 17) = false := by simp; omega
          rw [show k = 17 by omega] at HM HE
          go_wp2
          go_roundw
          case rel => exact ⟨i + 1, zs, by omega, by go_num, HL, HM, show _ = _ by rw [Qik_next]; exact HE.out, rZ, hbel⟩
          case measure => simp [intOf]; omega
    · have hdk : decide ((i : Int) < 17) = false := by simp; omega
      rw [show i = 17 by omega, Qik_all] at HE
      have HV : Hid (nV zs = nV a * nV b) := show _ = _ by
        rw [← nK_out zs 34 (by rw [HL.out]; omega), HE.out, nK_out a 17 (by rw [HA.out.len]; omega), nK_out b 17 (by rw [HB.out.len]; omega)]
      have HC : Hid (∀ i, gn zs i ≤ 1152921504606846976) := show ∀ i, gn zs i ≤ 1152921504606846976 from fun m => Nat.le_trans (HM.out m) (by omega)
      have HNO := veil (NOk.of_row rZ HL.out)
      clear HE HM
      go_wp2_with fail
      refine (refCarried_any w.heap.size 34 zs wr HNO.out HC.out).mono ?_
      rintro e8 w8 ⟨v8', rfl, own8, hb8⟩
      have own9 := own_low own8 hbel.size
      rw [HV.out] at own9
      go_wp2
      go_ret
      exact ⟨_, rfl, own9, hbel.trans (hb8.mono hbel.size)⟩
end Go.Proofs.Ytholddbmnlnkkaa
