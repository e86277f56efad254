/-
  What poly.carried answers.
-/
import Derived.Test.YtholddbmnlnkkaaPlMath
import Derived.WalkMore
namespace Go.Proofs.Ytholddbmnlnkkaa
open Go Go.RowKit

set_option maxRecDepth 20000 in
set_option maxHeartbeats 1000000 in
theorem carried_any (xs : List Nat) (hl : xs.length = 5) (hx : ∀ i, gn xs i < 4611686018427387904) (w : World) :
    Calls Try.prog 28 #[.agg (ns xs)] w fun e w' => ∃ ys, e = .returned (.agg (ns ys)) ∧ Sm ys ∧ Cy (V5 xs) ys ∧ Below w.heap.size w w' := by
  obtain ⟨V, hV⟩ : ∃ V, V = V5 xs := ⟨_, rfl⟩
  have HCY : Hid (Cy V xs) := show Cy V xs from ⟨by rw [hV], fun _ => hV.symm⟩
  have HL := veil hl
  have HX := veil hx
  have R0 : Row ((w.alloc (.cells (ns xs) 39)).alloc (.cells (ns (List.replicate 5 0)) 39)) w.heap.size 39 (ns xs) := (Row.new _ _ _).alloc _
  rw [← hV]
  clear hl hx hV
  go_enter Try.func28, Try.ntmps28
  go_wp2
  go_step3
  go_wp2
  go_step3
  go_wp2
  go_loopw [5] (fun _ wr => ∃ ys : List Nat, Hid (ys.length = 5) ∧ Hid (∀ i, gn ys i < 4611686018427387904) ∧ Hid (Cy V ys) ∧ Row wr (w.heap.size + 1) 39 (ns (List.replicate 5 0)) ∧ Row wr w.heap.size 39 (ns ys) ∧ Below w.heap.size w wr)
    (fun _ wr => V5 (wordsAt wr w.heap.size))
  case atStart => exact ⟨xs, HL, HX, HCY, Row.new1 _ _ _ (ns (List.replicate 5 0)), R0, ((Below.refl _ w).alloc (Nat.le_refl _) _).alloc (by simp) _⟩
  case round =>
    clear R0 HL HX HCY
    obtain ⟨ys, HL, HX0, HC, r1, r0, hbel⟩ := hrel
    have HW0 : Hid (V5 (wordsAt wr w.heap.size) = V5 ys) := show _ = _ by rw [wordsAt_row r0]
    have HX : Hid (∀ i, gn ys i < 4611686018427387904) := HX0
    go_wp2
    go_loopw [5] (fun iv wr => ∃ (k : Nat) (zs : List Nat), k ≤ 5 ∧ iv = .int .i64 k ∧ Hid (zs.length = 5) ∧ Hid (∀ i, i < k → gn zs i < 67108864) ∧ Hid (gn zs k < 9223372036854775808) ∧ Hid (∀ i, k < i → gn zs i < 4611686018427387904) ∧ Hid (V5 zs = V5 ys) ∧ Row wr (w.heap.size + 1) 39 (ns (List.replicate 5 0)) ∧ Row wr w.heap.size 39 (ns zs) ∧ Below w.heap.size w wr)
      (fun iv _ => 5 - (intOf iv).toNat)
    case atStart => exact ⟨0, ys, by omega, rfl, HL, fun i h => by omega, Nat.lt_trans (HX.out 0) (by omega), fun i _ => HX.out i, rfl, r1, r0, hbel⟩
    case round =>
      clear r0 r1 hbel HL HX
      obtain ⟨k, zs, hk, rfl, HL, HA, HK, HB, HV, r1, r0, hbel⟩ := hrel
      by_cases h5 : k < 5
      · have cx := r0.cellN (j := k) (by rw [HL.out]; exact h5)
        have fx := r0.frozen k
        obtain ⟨x, hxe⟩ : ∃ x, x = gn zs k := ⟨_, rfl⟩
        have hx63 : x < 9223372036854775808 := by rw [hxe]; exact HK.out
        rw [← hxe] at cx
        have hm26 : bits .and .u64 (x : Int) 67108863 = (x : Int) % 67108864 := and26 _ (by omega) (by omega)
        by_cases h4 : k < 4
        · have cy := r0.cellN (j := k + 1) (by rw [HL.out]; omega)
          have fy := r0.frozen (k + 1)
          obtain ⟨y, hye⟩ : ∃ y, y = gn zs (k + 1) := ⟨_, rfl⟩
          have hy62 : y < 4611686018427387904 := by rw [hye]; exact HB.out _ (by omega)
          rw [← hye] at cy
          have HXE := veil hxe
          have HYE := veil hye
          clear hxe hye
          have e1 : (x : Int) % 67108864 = ((x % 67108864 : Nat) : Int) := by omega
          have e2 : (y : Int) + (x : Int) / 67108864 = ((y + x / 67108864 : Nat) : Int) := by omega
          have E1 := veil e1
          have E2 := veil e2
          clear e1 e2
          go_wp2
          go_roundw
          case rel =>
            rw [E1.out, E2.out]
            have q0 := (r0.set k (.int .u64 ((x % 67108864 : Nat) : Int))).set (k + 1) (.int .u64 ((y + x / 67108864 : Nat) : Int))
            rw [ns_set, ns_set] at q0
            refine ⟨k + 1, _, by omega, by go_num, ?_, ?_, ?_, ?_, ?_, (r1.other (by show w.heap.size + 1 ≠ w.heap.size; omega) _).other (by show w.heap.size + 1 ≠ w.heap.size; omega) _, q0, (hbel.setCell (p := ⟨w.heap.size, k, none⟩) (Nat.le_refl _) _).setCell (p := ⟨w.heap.size, k + 1, none⟩) (Nat.le_refl _) _⟩
            · show List.length _ = 5
              rw [List.length_set, List.length_set]; exact HL.out
            · intro i hi
              rw [gn_set_ne (by omega)]
              by_cases hik : i = k
              · subst hik
                rw [gn_set_same (by rw [HL.out]; omega)]; omega
              · rw [gn_set_ne (by omega)]; exact HA.out i (by omega)
            · show gn _ _ < _
              rw [gn_set_same (by rw [List.length_set, HL.out]; omega)]; omega
            · intro i hi
              rw [gn_set_ne (by omega), gn_set_ne (by omega)]; exact HB.out i (by omega)
            · show V5 _ = V5 _
              rw [HXE.out, HYE.out, carry_step zs HL.out k h4]; exact HV.out
          case measure => simp [intOf]; omega
        · obtain rfl : k = 4 := by omega
          have c0 := r0.cellN (j := 0) (by rw [HL.out]; omega)
          have f0 := r0.frozen 0
          obtain ⟨y, hye⟩ : ∃ y, y = gn zs 0 := ⟨_, rfl⟩
          have hy26 : y < 67108864 := by rw [hye]; exact HA.out 0 (by omega)
          rw [← hye] at c0
          have HXE := veil hxe
          have HYE := veil hye
          have e1 : (x : Int) % 67108864 = ((x % 67108864 : Nat) : Int) := by omega
          have e2 : (y : Int) + 5 * ((x : Int) / 67108864) = ((y + 5 * (x / 67108864) : Nat) : Int) := by omega
          have E1 := veil e1
          have E2 := veil e2
          clear e1 e2 hxe hye
          by_cases hov : 67108864 ≤ x
          · have hd : decide (0 < (x : Int) / 67108864) = true := by simp; omega
            go_wp2
            go_roundw
            case rel =>
              rw [E1.out, E2.out]
              have q0 := (r0.set 4 (.int .u64 ((x % 67108864 : Nat) : Int))).set 0 (.int .u64 ((y + 5 * (x / 67108864) : Nat) : Int))
              rw [ns_set, ns_set] at q0
              refine ⟨_, ?_, ?_, ?_, (r1.other (by show w.heap.size + 1 ≠ w.heap.size; omega) _).other (by show w.heap.size + 1 ≠ w.heap.size; omega) _, q0, (hbel.setCell (p := ⟨w.heap.size, 4, none⟩) (Nat.le_refl _) _).setCell (p := ⟨w.heap.size, 0, none⟩) (Nat.le_refl _) _⟩
              · show List.length _ = 5
                rw [List.length_set, List.length_set]; exact HL.out
              · intro i
                by_cases hi0 : i = 0
                · subst hi0
                  rw [gn_set_same (by rw [List.length_set, HL.out]; omega)]; omega
                · rw [gn_set_ne (by omega)]
                  by_cases hi4 : i = 4
                  · subst hi4
                    rw [gn_set_same (by rw [HL.out]; omega)]; omega
                  · rw [gn_set_ne (by omega)]
                    by_cases hi5 : i < 5
                    · exact Nat.lt_trans (HA.out i (by omega)) (by omega)
                    · rw [gn_out (by rw [HL.out]; omega)]; omega
              · have hcy : Cy V zs := ⟨by rw [HV.out]; exact HC.out.mod, by rw [HV.out]; exact HC.out.eq⟩
                refine hcy.wrap (o := x / 67108864) ?_ ?_
                · rw [HXE.out, HYE.out]; exact carry_last zs HL.out
                · have := V5_le_last zs
                  rw [← HXE.out] at this
                  omega
            case measure =>
              rw [E1.out, E2.out]
              have q0 := (r0.set 4 (.int .u64 ((x % 67108864 : Nat) : Int))).set 0 (.int .u64 ((y + 5 * (x / 67108864) : Nat) : Int))
              rw [ns_set, ns_set] at q0
              rw [wordsAt_row q0, HW0.out, ← HV.out]
              have := carry_last zs HL.out
              rw [← HXE.out, ← HYE.out] at this
              have h1 : 1 * PP ≤ x / 67108864 * PP := Nat.mul_le_mul_right _ (by omega)
              have h2 : 0 < PP := by decide
              omega
          · have hd : decide (0 < (x : Int) / 67108864) = false := by simp; omega
            have HE : Hid (x % 67108864 = x) := show _ = _ from Nat.mod_eq_of_lt (by omega)
            go_wp2
            go_roundw
            case rel =>
              rw [E1.out, HE.out]
              have q0 := r0.set 4 (.int .u64 (x : Int))
              rw [ns_set] at q0
              refine ⟨5, _, by omega, by go_num, ?_, ?_, ?_, ?_, ?_, (r1.other (by show w.heap.size + 1 ≠ w.heap.size; omega) _), q0, (hbel.setCell (p := ⟨w.heap.size, 4, none⟩) (Nat.le_refl _) _)⟩
              · show List.length _ = 5
                rw [List.length_set]; exact HL.out
              · intro i hi
                by_cases hi4 : i = 4
                · subst hi4
                  rw [gn_set_same (by rw [HL.out]; omega)]; omega
                · rw [gn_set_ne (by omega)]; exact HA.out i (by omega)
              · show gn _ _ < _
                rw [gn_out (by rw [List.length_set, HL.out]; omega)]; omega
              · intro i hi
                rw [gn_out (by rw [List.length_set, HL.out]; omega)]; omega
              · show V5 _ = V5 _
                rw [← HV.out, HXE.out]
                obtain ⟨a, b, c, d, e, rfl⟩ := five HL.out
                simp [gn]
            case measure => simp [intOf]
      · obtain rfl : k = 5 := by omega
        have HS : Hid (Sm zs) := show Sm zs from ⟨HL.out, fun i => by
          by_cases hi : i < 5
          · exact HA.out i hi
          · rw [gn_out (by rw [HL.out]; omega)]; omega⟩
        have HCZ : Hid (Cy V zs) := show Cy V zs from ⟨by rw [HV.out]; exact HC.out.mod, by rw [HV.out]; exact HC.out.eq⟩
        go_wp2_with (first
          | (with_reducible (show wpList _ _ _ (⟨_, Op.load 39 _, _, _, _, _⟩ :: _) _ _)
             refine load_row rfl 39 _ rfl w.heap.size rfl _ _ r0 5 37 Try.underlying39 (by kernel_rfl) (by rw [ns_size, HL.out]) ?_)
          | (with_reducible (show wpList _ _ _ (⟨_, Op.store 39 _ _, _, _, _, _⟩ :: _) _ _)
             refine store_row rfl 39 _ _ rfl (w.heap.size + 1) (ns zs) rfl rfl _ _ r1 5 (by kernel_rfl) (by rw [ns_size, List.length_replicate]) (by rw [ns_size, HL.out]) (ns_one _) ?_))
        rw [Exit.noGoto_ret]
        refine bodyPost_ret (result_row rfl _ _ (w.heap.size + 1) _ _ (r1.put _) 5 37 rfl Try.underlying39 (by kernel_rfl) (by rw [ns_size, HL.out])) rfl ⟨zs, rfl, HS.out, HCZ.out, bSetRow hbel (by omega) _⟩
end Go.Proofs.Ytholddbmnlnkkaa
