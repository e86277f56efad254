/-
  What poly.product answers.
-/
import Derived.Test.YtholddbmnlnkkaaPlSum
import Derived.Deep.QuietTactic
import Derived.BigQuiet
namespace Go.Proofs.Ytholddbmnlnkkaa
open Go Go.RowKit

/-- The number of the first k words. -/
def Vk (a : List Nat) : Nat → Nat
  | 0 => 0
  | k + 1 => Vk a k + gn a k * 67108864 ^ k
theorem Vk_five (a : List Nat) : Vk a 5 = V5 a := by
  simp only [Vk, V5, Nat.reducePow]
  omega
theorem V5_add (zs : List Nat) (hl : zs.length = 5) (m : Nat) (hm : m < 5) (x : Nat) : V5 (zs.set m (gn zs m + x)) = V5 zs + x * 67108864 ^ m := by
  obtain ⟨a, b, c, d, e, rfl⟩ := five hl
  match m, hm with
  | 0, _ => simp [V5, gn]; omega
  | 1, _ => simp [V5, gn]; omega
  | 2, _ => simp [V5, gn]; omega
  | 3, _ => simp [V5, gn]; omega
  | 4, _ => simp [V5, gn]; omega
/-- The sum, when all below (i, j) is in it. -/
def Pij (a b : List Nat) (i j : Nat) : Nat := Vk a i * V5 b + gn a i * 67108864 ^ i * Vk b j
theorem Pij_step (a b : List Nat) (i j : Nat) : Pij a b i (j + 1) = Pij a b i j + gn a i * gn b j * 67108864 ^ (i + j) := by
  unfold Pij
  rw [show Vk b (j + 1) = Vk b j + gn b j * 67108864 ^ j from rfl, Nat.mul_add, Nat.pow_add, ← Nat.add_assoc]
  congr 1
  simp only [Nat.mul_assoc, Nat.mul_left_comm]
theorem Pij_next (a b : List Nat) (i : Nat) : Pij a b (i + 1) 0 = Pij a b i 5 := by
  unfold Pij
  rw [Vk_five, show Vk b 0 = 0 from rfl, Nat.mul_zero, Nat.add_zero, show Vk a (i + 1) = Vk a i + gn a i * 67108864 ^ i from rfl, Nat.add_mul]
theorem Pij_all (a b : List Nat) : Pij a b 5 0 = V5 a * V5 b := by
  unfold Pij
  rw [Vk_five, show Vk b 0 = 0 from rfl, Nat.mul_zero, Nat.add_zero]
/-- As much by 2^130 - 5. -/
def Eqp (x y : Nat) : Prop := ∃ q, x + q * PP = y
theorem Eqp.mod {x y : Nat} (h : Eqp x y) : x % PP = y % PP := by
  obtain ⟨q, rfl⟩ := h
  rw [Nat.add_mul_mod_self_right]
theorem pow130 (m : Nat) : 67108864 ^ (m + 5) = 67108864 ^ m * 5 + 67108864 ^ m * PP := by
  rw [Nat.pow_add, ← Nat.mul_add]
  congr 1
theorem Eqp.low {zs : List Nat} (hl : zs.length = 5) {a b : List Nat} {i j : Nat} (h : Eqp (V5 zs) (Pij a b i j)) (hij : i + j < 5) (x : Nat) (hx : x = gn a i * gn b j) : Eqp (V5 (zs.set (i + j) (gn zs (i + j) + x))) (Pij a b i (j + 1)) := by
  obtain ⟨q, hq⟩ := h
  refine ⟨q, ?_⟩
  rw [V5_add zs hl _ hij, Pij_step, ← hq, hx]
  omega
theorem Eqp.high {zs : List Nat} (hl : zs.length = 5) {a b : List Nat} {i j m : Nat} (h : Eqp (V5 zs) (Pij a b i j)) (hm : i + j = m + 5) (hm5 : m < 5) (x : Nat) (hx : x = gn a i * gn b j) : Eqp (V5 (zs.set m (gn zs m + x * 5))) (Pij a b i (j + 1)) := by
  obtain ⟨q, hq⟩ := h
  refine ⟨q + x * 67108864 ^ m, ?_⟩
  rw [V5_add zs hl _ hm5, Pij_step, ← hq, ← hx, hm, pow130, Nat.add_mul, Nat.mul_add]
  have e1 : x * 5 * 67108864 ^ m = x * (67108864 ^ m * 5) := by rw [Nat.mul_assoc, Nat.mul_comm 5]
  have e2 : x * 67108864 ^ m * PP = x * (67108864 ^ m * PP) := Nat.mul_assoc _ _ _
  rw [e1, e2]
  omega

set_option maxRecDepth 20000 in
set_option maxHeartbeats 1000000 in
theorem product_any (a b : List Nat) (ha : Sm a) (hb : Sm b) (w : World) :
    Calls Try.prog 17 #[.agg (ns a), .agg (ns b)] w fun e w' => ∃ ys, e = .returned (.agg (ns ys)) ∧ Sm ys ∧ V5 ys % PP = V5 a * V5 b % PP ∧ Below w.heap.size w w' := by
  have HA := veil ha
  have HB := veil hb
  clear ha hb
  go_enter Try.func17, Try.ntmps17
  go_wp2
  go_loopw [9] (fun iv wr => ∃ (i : Nat) (zs : List Nat), i ≤ 5 ∧ iv = .int .i64 i ∧ Hid (zs.length = 5) ∧ Hid (∀ m, gn zs m ≤ 5 * i * 22517998136852480) ∧ Hid (Eqp (V5 zs) (Pij a b i 0)) ∧ Row wr w.heap.size 39 (ns a) ∧ Row wr (w.heap.size + 1) 39 (ns b) ∧ Row wr (w.heap.size + 1 + 1) 39 (ns (List.replicate 5 0)) ∧ Row wr (w.heap.size + 1 + 1 + 1) 39 (ns zs) ∧ Below w.heap.size w wr)
    (fun iv _ => 5 - (intOf iv).toNat)
  case atStart =>
    refine ⟨0, List.replicate 5 0, by omega, rfl, rfl, fun m => ?_, ⟨0, ?_⟩, (((Row.new _ _ _).alloc _).alloc _).alloc _, ((Row.new1 _ _ _ _).alloc _).alloc _, (Row.new2 _ _ _ _ (ns (List.replicate 5 0))).alloc _, Row.new3 _ _ _ _ _ (ns (List.replicate 5 0)), ((((Below.refl _ w).alloc (Nat.le_refl _) _).alloc (by simp) _).alloc (by simp; omega) _).alloc (by simp; omega) _⟩
    · show gn _ m ≤ _
      unfold gn
      rw [List.getElem?_replicate]
      split <;> simp
    · simp [Pij, Vk, V5, gn]
  case round =>
    obtain ⟨i, zs, hi, rfl, HL, HM, HE, r0, r1, r2, r3, hbel⟩ := hrel
    by_cases h5 : i < 5
    · go_wp2
      go_loopw [12] (fun jv wr => ∃ (j : Nat) (zs : List Nat), j ≤ 5 ∧ jv = .int .i64 j ∧ Hid (zs.length = 5) ∧ Hid (∀ m, gn zs m ≤ (5 * i + j) * 22517998136852480) ∧ Hid (Eqp (V5 zs) (Pij a b i j)) ∧ Row wr w.heap.size 39 (ns a) ∧ Row wr (w.heap.size + 1) 39 (ns b) ∧ Row wr (w.heap.size + 1 + 1) 39 (ns (List.replicate 5 0)) ∧ Row wr (w.heap.size + 1 + 1 + 1) 39 (ns zs) ∧ Below w.heap.size w wr)
        (fun jv _ => 5 - (intOf jv).toNat)
      case atStart => exact ⟨0, zs, by omega, rfl, HL, HM, HE, r0, r1, r2, r3, hbel⟩
      case round =>
        clear HL HM HE r0 r1 r2 r3 hbel zs
        obtain ⟨j, zs, hj, rfl, HL, HM, HE, r0, r1, r2, r3, hbel⟩ := hrel
        by_cases hj5 : j < 5
        · have ca := r0.cellN (j := i) (by rw [HA.out.len]; exact h5)
          have cb := r1.cellN (j := j) (by rw [HB.out.len]; exact hj5)
          obtain ⟨x, hxe⟩ : ∃ x, x = gn a i := ⟨_, rfl⟩
          obtain ⟨y, hye⟩ : ∃ y, y = gn b j := ⟨_, rfl⟩
          have hx26 : x < 67108864 := by rw [hxe]; exact HA.out.lt _
          have hy26 : y < 67108864 := by rw [hye]; exact HB.out.lt _
          rw [← hxe] at ca
          rw [← hye] at cb
          obtain ⟨z, hz⟩ : ∃ z, z = x * y := ⟨_, rfl⟩
          have hzb : z ≤ 4503599627370496 := by
            rw [hz]
            exact Nat.mul_le_mul (Nat.le_of_lt hx26) (Nat.le_of_lt hy26)
          have hmul : IntKind.u64.wrap ((x : Int) * (y : Int)) = (z : Int) := by
            rw [show (x : Int) * (y : Int) = (z : Int) by rw [hz, Int.natCast_mul], IntKind.wrap_u64]
            omega
          have HZ : Hid (z = gn a i * gn b j) := show _ = _ by rw [hz, hxe, hye]
          clear hz hxe hye
          have cz := r3.cellN (j := (i + j) % 5) (by rw [HL.out]; omega)
          have fz := r3.frozen ((i + j) % 5)
          obtain ⟨v, hve⟩ : ∃ v, v = gn zs ((i + j) % 5) := ⟨_, rfl⟩
          have hvb : v ≤ 562949953421312000 := by
            rw [hve]
            exact Nat.le_trans (HM.out _) (Nat.mul_le_mul_right 22517998136852480 (show 5 * i + j ≤ 25 by omega))
          have HVB : Hid (v ≤ (5 * i + j) * 22517998136852480) := show _ ≤ _ by rw [hve]; exact HM.out _
          rw [← hve] at cz
          have HVE := veil hve
          clear hve
          by_cases h55 : i + j < 5
          · have hge : decide ((5 : Int) ≤ (i : Int) + (j : Int)) = false := by simp; omega
            have E1 := veil (show (v : Int) + (z : Int) = ((v + z : Nat) : Int) by omega)
            have HN : Hid (Eqp (V5 (zs.set ((i + j) % 5) (v + z))) (Pij a b i (j + 1))) := show Eqp _ _ by
              rw [HVE.out, show (i + j) % 5 = i + j by omega]
              exact HE.out.low HL.out h55 z HZ.out
            have HM' : Hid (∀ m, gn (zs.set ((i + j) % 5) (v + z)) m ≤ (5 * i + (j + 1)) * 22517998136852480) := show ∀ m, gn (zs.set ((i + j) % 5) (v + z)) m ≤ (5 * i + (j + 1)) * 22517998136852480 from fun m => by
              rw [gn_set]
              split
              · have := HVB.out
                generalize hG : (22517998136852480 : Nat) = G at *
                rw [show (5 * i + (j + 1)) * G = (5 * i + j) * G + G by rw [← Nat.add_assoc, Nat.add_mul, Nat.one_mul]]
                exact Nat.add_le_add this (by omega)
              · exact Nat.le_trans (HM.out m) (Nat.mul_le_mul_right _ (by omega))
            go_wp2
            go_quiet (fail)
            go_wp2
            go_roundw
            case rel =>
              rw [E1.out]
              have q3 := r3.set ((i + j) % 5) (.int .u64 ((v + z : Nat) : Int))
              rw [ns_set] at q3
              refine ⟨j + 1, _, by omega, by go_num, ?_, HM', HN, r0.other (by show w.heap.size ≠ w.heap.size + 1 + 1 + 1; omega) _, r1.other (by show w.heap.size + 1 ≠ w.heap.size + 1 + 1 + 1; omega) _, r2.other (by show w.heap.size + 1 + 1 ≠ w.heap.size + 1 + 1 + 1; omega) _, q3, (below_drewN hbel _).setCell (p := ⟨w.heap.size + 1 + 1 + 1, (i + j) % 5, none⟩) (by show w.heap.size ≤ w.heap.size + 1 + 1 + 1; omega) _⟩
              show List.length _ = 5
              rw [List.length_set]; exact HL.out
            case measure => simp [intOf]; omega
          · have hge : decide ((5 : Int) ≤ (i : Int) + (j : Int)) = true := by simp; omega
            have E1 := veil (show (v : Int) + (z : Int) * 5 = ((v + z * 5 : Nat) : Int) by omega)
            have HN : Hid (Eqp (V5 (zs.set ((i + j) % 5) (v + z * 5))) (Pij a b i (j + 1))) := show Eqp _ _ by
              rw [HVE.out]
              exact HE.out.high HL.out (by omega) (by omega) z HZ.out
            have HM' : Hid (∀ m, gn (zs.set ((i + j) % 5) (v + z * 5)) m ≤ (5 * i + (j + 1)) * 22517998136852480) := show ∀ m, gn (zs.set ((i + j) % 5) (v + z * 5)) m ≤ (5 * i + (j + 1)) * 22517998136852480 from fun m => by
              rw [gn_set]
              split
              · have := HVB.out
                generalize hG : (22517998136852480 : Nat) = G at *
                rw [show (5 * i + (j + 1)) * G = (5 * i + j) * G + G by rw [← Nat.add_assoc, Nat.add_mul, Nat.one_mul]]
                exact Nat.add_le_add this (by omega)
              · exact Nat.le_trans (HM.out m) (Nat.mul_le_mul_right _ (by omega))
            go_wp2
            go_quiet (fail)
            go_wp2
            go_roundw
            case rel =>
              rw [E1.out]
              have q3 := r3.set ((i + j) % 5) (.int .u64 ((v + z * 5 : Nat) : Int))
              rw [ns_set] at q3
              refine ⟨j + 1, _, by omega, by go_num, ?_, HM', HN, r0.other (by show w.heap.size ≠ w.heap.size + 1 + 1 + 1; omega) _, r1.other (by show w.heap.size + 1 ≠ w.heap.size + 1 + 1 + 1; omega) _, r2.other (by show w.heap.size + 1 + 1 ≠ w.heap.size + 1 + 1 + 1; omega) _, q3, (below_drewN hbel _).setCell (p := ⟨w.heap.size + 1 + 1 + 1, (i + j) % 5, none⟩) (by show w.heap.size ≤ w.heap.size + 1 + 1 + 1; omega) _⟩
              show List.length _ = 5
              rw [List.length_set]; exact HL.out
            case measure => simp [intOf]; omega
        · have hd : decide ((j : Int) < 5) = false := by simp; omega
          rw [show j = 5 by omega] at HM HE
          go_wp2
          go_roundw
          case rel => exact ⟨i + 1, zs, by omega, by go_num, HL, HM, show Eqp _ _ by rw [Pij_next]; exact HE.out, r0, r1, r2, r3, hbel⟩
          case measure => simp [intOf]; omega
    · have hd : decide ((i : Int) < 5) = false := by simp; omega
      rw [show i = 5 by omega, Pij_all] at HE
      rw [show i = 5 by omega] at HM
      have HX : Hid (∀ m, gn zs m < 4611686018427387904) := show ∀ m, _ < _ from fun m => Nat.lt_of_le_of_lt (HM.out m) (by omega)
      go_wp2_with (with_reducible (show wpList _ _ _ (⟨_, Op.load 39 _, _, _, _, _⟩ :: _) _ _)
                   refine load_row rfl 39 _ rfl (w.heap.size + 1 + 1 + 1) rfl _ _ r3 5 37 Try.underlying39 (by kernel_rfl) (by rw [ns_size, HL.out]) ?_)
      refine (carried_any zs HL.out HX.out wr).mono ?_
      rintro e1 w1 ⟨ys, rfl, hsm, hcy, hb1⟩
      have HS := veil hsm
      have HC := veil hcy
      have hs1 := hbel.size
      have q2 := r2.below hb1 r2.lt
      have bel2 : Below w.heap.size w w1 := hbel.trans (hb1.mono hs1)
      clear hsm hcy
      go_wp2_with (with_reducible (show wpList _ _ _ (⟨_, Op.store 39 _ _, _, _, _, _⟩ :: _) _ _)
                   refine store_row rfl 39 _ _ rfl (w.heap.size + 1 + 1) (ns ys) rfl rfl _ _ q2 5 (by kernel_rfl) (by rw [ns_size, List.length_replicate]) (by rw [ns_size, HS.out.len]) (ns_one _) ?_)
      refine bodyPost_ret (result_row rfl _ _ (w.heap.size + 1 + 1) _ _ (q2.put _) 5 37 rfl Try.underlying39 (by kernel_rfl) (by rw [ns_size, HS.out.len])) rfl ⟨ys, rfl, HS.out, by rw [HC.out.mod, HE.out.mod], bSetRow bel2 (by omega) _⟩
end Go.Proofs.Ytholddbmnlnkkaa
