/-
  What poly.bytesOf answers.
-/
import Derived.Test.YtholddbmnlnkkaaPlNum
import Derived.BigRegion
namespace Go.Proofs.Ytholddbmnlnkkaa
open Go Go.RowKit

/-- The i-th byte of a number. -/
def byteAt (v i : Nat) : By := BitVec.ofNat 8 (v / 256 ^ i)
/-- The sixteen lowest bytes of a number. -/
def by16 (v : Nat) : List By := (List.range 16).map (byteAt v)
theorem by16_length (v : Nat) : (by16 v).length = 16 := by simp [by16]
theorem by16_of {zs : List By} (h : zs.length = 16) {v : Nat} (hz : ∀ i, i < 16 → gb zs i = byteAt v i) : zs = by16 v := by
  apply List.ext_getElem (by rw [h, by16_length])
  intro i h1 h2
  have := hz i (by omega)
  unfold gb at this
  rw [List.getElem?_eq_getElem h1] at this
  simp only [Option.getD_some] at this
  rw [this]
  simp [by16]
theorem gb_set {zs : List By} {i j : Nat} (x : By) (hi : i < zs.length) : gb (zs.set i x) j = if i = j then x else gb zs j := by
  unfold gb
  rw [List.getElem?_set]
  by_cases h : i = j
  · subst h
    simp [hi]
  · simp [h]
/-- The byte, by the words in which it lies. -/
theorem byte_two {a : List Nat} (ha : Sm a) (k : Nat) (hk : k < 16) (h4 : 8 * k / 26 + 1 < 5) : (gn a (8 * k / 26) / 2 ^ (8 * k % 26) + gn a (8 * k / 26 + 1) * 2 ^ (26 - 8 * k % 26)) % 256 = V5 a / 256 ^ k % 256 := by
  have b0 := ha.lt 0
  have b1 := ha.lt 1
  have b2 := ha.lt 2
  have b3 := ha.lt 3
  have b4 := ha.lt 4
  unfold V5
  rcases (show k = 0 ∨ k = 1 ∨ k = 2 ∨ k = 3 ∨ k = 4 ∨ k = 5 ∨ k = 6 ∨ k = 7 ∨ k = 8 ∨ k = 9 ∨ k = 10 ∨ k = 11 ∨ k = 12 by omega) with rfl | rfl | rfl | rfl | rfl | rfl | rfl | rfl | rfl | rfl | rfl | rfl | rfl
  all_goals
    simp only [Nat.reduceMul, Nat.reduceDiv, Nat.reduceMod, Nat.reducePow, Nat.reduceAdd, Nat.reduceSub]
    omega
theorem byte_one {a : List Nat} (ha : Sm a) (k : Nat) (hk : k < 16) (h4 : ¬ 8 * k / 26 + 1 < 5) : gn a (8 * k / 26) / 2 ^ (8 * k % 26) % 256 = V5 a / 256 ^ k % 256 := by
  have b0 := ha.lt 0
  have b1 := ha.lt 1
  have b2 := ha.lt 2
  have b3 := ha.lt 3
  have b4 := ha.lt 4
  unfold V5
  rcases (show k = 13 ∨ k = 14 ∨ k = 15 by omega) with rfl | rfl | rfl
  all_goals
    simp only [Nat.reduceMul, Nat.reduceDiv, Nat.reduceMod, Nat.reducePow]
    omega
theorem v8_byteAt (v i : Nat) : v8 (byteAt v i) = ((v / 256 ^ i % 256 : Nat) : Int) := by
  unfold v8 byteAt
  rw [BitVec.toNat_ofNat]
/-- Two words that do not meet. -/
theorem or_apart (x y : Nat) (t : Nat) (hx : x < 2 ^ t) (hxb : x < 18446744073709551616) (hyb : y * 2 ^ t < 18446744073709551616) : bits .or .u64 (x : Int) ((y * 2 ^ t : Nat) : Int) = ((x + y * 2 ^ t : Nat) : Int) := by
  rw [u64_or _ _ (by omega) (by omega) (by omega) (by omega), Int.toNat_natCast, Int.toNat_natCast, Nat.or_comm, Nat.mul_comm y, ← Nat.two_pow_add_eq_or_of_lt hx, Nat.add_comm]

set_option maxRecDepth 20000 in
set_option maxHeartbeats 1000000 in
theorem bytesOf_any (a : List Nat) (ha : Sm a) (w : World) :
    Calls Try.prog 19 #[.agg (ns a)] w fun e w' => e = .returned (.agg (bs (by16 (V5 a)))) ∧ Below w.heap.size w w' := by
  have HA := veil ha
  clear ha
  go_enter Try.func19, Try.ntmps19
  go_wp2
  go_loopw [8] (fun iv wr => ∃ (k : Nat) (zs : List By), k ≤ 16 ∧ iv = .int .i64 k ∧ Hid (zs.length = 16) ∧ Hid (∀ i, i < k → gb zs i = byteAt (V5 a) i) ∧ Row wr w.heap.size 39 (ns a) ∧ Row wr (w.heap.size + 1) 25 (bs (List.replicate 16 0)) ∧ Row wr (w.heap.size + 1 + 1) 25 (bs zs) ∧ Below w.heap.size w wr)
    (fun iv _ => 16 - (intOf iv).toNat)
  case atStart => exact ⟨0, List.replicate 16 0, by omega, rfl, rfl, fun i hi => by omega, ((Row.new _ _ _).alloc _).alloc _, (Row.new1 _ _ _ (bs (List.replicate 16 0))).alloc _, Row.new2 _ _ _ _ (bs (List.replicate 16 0)), (((Below.refl _ w).alloc (Nat.le_refl _) _).alloc (by simp) _).alloc (by simp; omega) _⟩
  case round =>
    obtain ⟨k, zs, hk, rfl, HL, HD, r0, r1, r2, hbel⟩ := hrel
    by_cases h16 : k < 16
    · have hdk : decide ((k : Int) < 16) = true := by simp; omega
      have ca := r0.cellN (j := 8 * k / 26) (by rw [HA.out.len]; omega)
      obtain ⟨x, hxe⟩ : ∃ x, x = gn a (8 * k / 26) := ⟨_, rfl⟩
      have hx26 : x < 67108864 := by rw [hxe]; exact HA.out.lt _
      rw [← hxe] at ca
      have cz := r2.cellB (j := k) (by rw [HL.out]; exact h16)
      have fz := r2.frozen k
      generalize v8 (gb zs k) = v0 at cz
      obtain ⟨p, hpe⟩ : ∃ p, p = x / 2 ^ (8 * k % 26) := ⟨_, rfl⟩
      have hpb : p < 67108864 := by rw [hpe]; exact Nat.lt_of_le_of_lt (Nat.div_le_self _ _) hx26
      have hshr : (x : Int) / 2 ^ (8 * k % 26) = (p : Int) := by rw [hpe]; simp
      by_cases h4 : 8 * k / 26 + 1 < 5
      · have cb := r0.cellN (j := 8 * k / 26 + 1) (by rw [HA.out.len]; omega)
        obtain ⟨y, hye⟩ : ∃ y, y = gn a (8 * k / 26 + 1) := ⟨_, rfl⟩
        have hy26 : y < 67108864 := by rw [hye]; exact HA.out.lt _
        rw [← hye] at cb
        have hd4 : decide (8 * (k : Int) / 26 + 1 < 5) = true := by simp; omega
        have HW : Hid (bits .or .u64 (p : Int) (IntKind.u64.wrap ((y : Int) * 2 ^ (26 - 8 * k % 26))) % 256 = v8 (byteAt (V5 a) k)) := show _ = _ by
          have hpw : y * 2 ^ (26 - 8 * k % 26) < 18446744073709551616 := by
            have h1 : y * 2 ^ (26 - 8 * k % 26) ≤ 67108864 * 2 ^ 26 := Nat.mul_le_mul (Nat.le_of_lt hy26) (Nat.pow_le_pow_right (by omega) (by omega))
            omega
          have hpt : p < 2 ^ (26 - 8 * k % 26) := by
            rw [hpe]
            apply Nat.div_lt_of_lt_mul
            rw [← Nat.pow_add, show 8 * k % 26 + (26 - 8 * k % 26) = 26 by omega]
            exact hx26
          have e1 : (y : Int) * 2 ^ (26 - 8 * k % 26) = ((y * 2 ^ (26 - 8 * k % 26) : Nat) : Int) := by simp
          have e2 : IntKind.u64.wrap ((y * 2 ^ (26 - 8 * k % 26) : Nat) : Int) = ((y * 2 ^ (26 - 8 * k % 26) : Nat) : Int) := by rw [IntKind.wrap_u64]; omega
          rw [e1, e2, or_apart p y _ hpt (by omega) hpw, v8_byteAt, ← byte_two HA.out k h16 h4, ← hxe, ← hye, ← hpe]
          omega
        clear hpe hxe hye
        go_wp2
        go_roundw
        case rel =>
          rw [HW.out]
          have q2 := r2.set k (.int .u8 (v8 (byteAt (V5 a) k)))
          rw [bs_set] at q2
          refine ⟨k + 1, _, by omega, by go_num, ?_, ?_, r0.other (by show w.heap.size ≠ w.heap.size + 1 + 1; omega) _, r1.other (by show w.heap.size + 1 ≠ w.heap.size + 1 + 1; omega) _, q2, hbel.setCell (p := ⟨w.heap.size + 1 + 1, k, none⟩) (by show w.heap.size ≤ w.heap.size + 1 + 1; omega) _⟩
          · show List.length _ = 16
            rw [List.length_set]; exact HL.out
          · intro i hi
            rw [gb_set _ (by rw [HL.out]; exact h16)]
            split
            · rename_i h; rw [h]
            · exact HD.out i (by omega)
        case measure => simp [intOf]; omega
      · have hd4 : decide (8 * (k : Int) / 26 + 1 < 5) = false := by simp; omega
        have HW : Hid ((p : Int) % 256 = v8 (byteAt (V5 a) k)) := show _ = _ by
          rw [v8_byteAt, ← byte_one HA.out k h16 h4, ← hxe, ← hpe]
          omega
        clear hpe hxe
        go_wp2
        go_roundw
        case rel =>
          rw [HW.out]
          have q2 := r2.set k (.int .u8 (v8 (byteAt (V5 a) k)))
          rw [bs_set] at q2
          refine ⟨k + 1, _, by omega, by go_num, ?_, ?_, r0.other (by show w.heap.size ≠ w.heap.size + 1 + 1; omega) _, r1.other (by show w.heap.size + 1 ≠ w.heap.size + 1 + 1; omega) _, q2, hbel.setCell (p := ⟨w.heap.size + 1 + 1, k, none⟩) (by show w.heap.size ≤ w.heap.size + 1 + 1; omega) _⟩
          · show List.length _ = 16
            rw [List.length_set]; exact HL.out
          · intro i hi
            rw [gb_set _ (by rw [HL.out]; exact h16)]
            split
            · rename_i h; rw [h]
            · exact HD.out i (by omega)
        case measure => simp [intOf]; omega
    · have hdk : decide ((k : Int) < 16) = false := by simp; omega
      rw [show k = 16 by omega] at HD
      have e := by16_of HL.out HD.out
      have hsz : (bs zs).size = 16 := by rw [bs_size, HL.out]
      have HE := veil e
      clear e
      go_wp2_with (first
        | (with_reducible (show wpList _ _ _ (⟨_, Op.load 25 _, _, _, _, _⟩ :: _) _ _)
           refine load_row rfl 25 _ rfl (w.heap.size + 1 + 1) rfl _ _ r2 16 5 Try.underlying25 (by kernel_rfl) hsz ?_)
        | (with_reducible (show wpList _ _ _ (⟨_, Op.store 25 _ _, _, _, _, _⟩ :: _) _ _)
           refine store_row rfl 25 _ _ rfl (w.heap.size + 1) (bs zs) rfl rfl _ _ r1 16 (by kernel_rfl) (by rw [bs_size, List.length_replicate]) hsz (bs_one _) ?_))
      refine bodyPost_ret (result_row rfl _ _ (w.heap.size + 1) _ _ (r1.put _) 16 5 rfl Try.underlying25 (by kernel_rfl) hsz) rfl ⟨by rw [HE.out], bSetRow hbel (by omega) _⟩
end Go.Proofs.Ytholddbmnlnkkaa
