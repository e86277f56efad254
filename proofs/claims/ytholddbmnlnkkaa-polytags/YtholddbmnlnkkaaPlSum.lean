/-
  What poly.sum and poly.below128 answer.
-/
import Derived.Test.YtholddbmnlnkkaaPlCarried
namespace Go.Proofs.Ytholddbmnlnkkaa
open Go Go.RowKit

theorem V5_sum (a b zs : List Nat) (h : ∀ i, i < 5 → gn zs i = gn a i + gn b i) : V5 zs = V5 a + V5 b := by
  unfold V5
  rw [h 0 (by omega), h 1 (by omega), h 2 (by omega), h 3 (by omega), h 4 (by omega)]
  omega

set_option maxRecDepth 20000 in
set_option maxHeartbeats 1000000 in
theorem sum_any (a b : List Nat) (ha : Sm a) (hb : Sm b) (w : World) :
    Calls Try.prog 18 #[.agg (ns a), .agg (ns b)] w fun e w' => ∃ ys, e = .returned (.agg (ns ys)) ∧ Sm ys ∧ Cy (V5 a + V5 b) ys ∧ Below w.heap.size w w' := by
  have HA := veil ha
  have HB := veil hb
  have R0 : Row (((w.alloc (.cells (ns a) 39)).alloc (.cells (ns b) 39)).alloc (.cells (ns (List.replicate 5 0)) 39)) w.heap.size 39 (ns a) := ((Row.new _ _ _).alloc _).alloc _
  have R1 : Row (((w.alloc (.cells (ns a) 39)).alloc (.cells (ns b) 39)).alloc (.cells (ns (List.replicate 5 0)) 39)) (w.heap.size + 1) 39 (ns b) := (Row.new1 _ _ _ _).alloc _
  clear ha hb
  go_enter Try.func18, Try.ntmps18
  go_wp2
  go_loopw [6] (fun iv wr => ∃ (k : Nat) (zs : List Nat), k ≤ 5 ∧ iv = .int .i64 k ∧ Hid (zs.length = 5) ∧ Hid (∀ i, i < k → gn zs i = gn a i + gn b i) ∧ Hid (∀ i, k ≤ i → gn zs i = gn a i) ∧ Row wr w.heap.size 39 (ns zs) ∧ Row wr (w.heap.size + 1) 39 (ns b) ∧ Row wr (w.heap.size + 1 + 1) 39 (ns (List.replicate 5 0)) ∧ Below w.heap.size w wr)
    (fun iv _ => 5 - (intOf iv).toNat)
  case atStart => exact ⟨0, a, by omega, rfl, HA.out.len, fun i h => by omega, fun i _ => rfl, R0, R1, Row.new2 _ _ _ _ (ns (List.replicate 5 0)), (((Below.refl _ w).alloc (Nat.le_refl _) _).alloc (by simp) _).alloc (by simp; omega) _⟩
  case round =>
    clear R0 R1
    obtain ⟨k, zs, hk, rfl, HL, HD, HU, r0, r1, r2, hbel⟩ := hrel
    by_cases h5 : k < 5
    · have cx := r0.cellN (j := k) (by rw [HL.out]; exact h5)
      have fx := r0.frozen k
      have cy := r1.cellN (j := k) (by rw [HB.out.len]; exact h5)
      rw [HU.out k (Nat.le_refl _)] at cx
      obtain ⟨x, hxe⟩ : ∃ x, x = gn a k := ⟨_, rfl⟩
      obtain ⟨y, hye⟩ : ∃ y, y = gn b k := ⟨_, rfl⟩
      have hx26 : x < 67108864 := by rw [hxe]; exact HA.out.lt _
      have hy26 : y < 67108864 := by rw [hye]; exact HB.out.lt _
      rw [← hxe] at cx
      rw [← hye] at cy
      have HXE := veil hxe
      have HYE := veil hye
      have E1 := veil (show (x : Int) + (y : Int) = ((x + y : Nat) : Int) by omega)
      clear hxe hye
      go_wp2
      go_region
      all_goals go_wp2
      all_goals
        go_roundw
        case rel =>
          rw [E1.out]
          have q0 := r0.set k (.int .u64 ((x + y : Nat) : Int))
          rw [ns_set] at q0
          refine ⟨k + 1, _, by omega, by go_num, ?_, ?_, ?_, q0, r1.other (by show w.heap.size + 1 ≠ w.heap.size; omega) _, r2.other (by show w.heap.size + 1 + 1 ≠ w.heap.size; omega) _, (below_drewN hbel _).setCell (p := ⟨w.heap.size, k, none⟩) (Nat.le_refl _) _⟩
          · show List.length _ = 5
            rw [List.length_set]; exact HL.out
          · intro i hi
            by_cases hik : i = k
            · subst hik
              rw [gn_set_same (by rw [HL.out]; omega), HXE.out, HYE.out]
            · rw [gn_set_ne (by omega)]; exact HD.out i (by omega)
          · intro i hi
            rw [gn_set_ne (by omega)]; exact HU.out i (by omega)
        case measure => simp [intOf]; omega
    · obtain rfl : k = 5 := by omega
      have HV : Hid (V5 zs = V5 a + V5 b) := show _ = _ from V5_sum a b zs HD.out
      have HX : Hid (∀ i, gn zs i < 4611686018427387904) := show ∀ i, gn zs i < 4611686018427387904 from fun i => by
        by_cases hi : i < 5
        · rw [HD.out i hi]
          have h1 := HA.out.lt i
          have h2 := HB.out.lt i
          omega
        · rw [gn_out (by rw [HL.out]; omega)]; omega
      go_wp2_with (with_reducible (show wpList _ _ _ (⟨_, Op.load 39 _, _, _, _, _⟩ :: _) _ _)
                   refine load_row rfl 39 _ rfl w.heap.size rfl _ _ r0 5 37 Try.underlying39 (by kernel_rfl) (by rw [ns_size, HL.out]) ?_)
      refine (carried_any zs HL.out HX.out wr).mono ?_
      rintro e1 w1 ⟨ys, rfl, hsm, hcy, hb1⟩
      have HS := veil hsm
      have HC := veil hcy
      have hs1 := hbel.size
      have q2 := r2.below hb1 r2.lt
      have bel2 : Below w.heap.size w w1 := hbel.trans (hb1.mono hs1)
      clear hsm hcy
      go_wp2_with (with_reducible (show wpList _ _ _ (⟨_, Op.store 39 _ _, _, _, _, _⟩ :: _) _ _)
                   refine store_row rfl 39 _ _ rfl (w.heap.size + 1 + 1) (ns ys) rfl rfl _ _ q2 5 (by kernel_rfl) (by rw [ns_size, List.length_replicate]) (by rw [ns_size, HS.out.len]) (ns_one _) ?_)
      refine bodyPost_ret (result_row rfl _ _ (w.heap.size + 1 + 1) _ _ (q2.put _) 5 37 rfl Try.underlying39 (by kernel_rfl) (by rw [ns_size, HS.out.len])) rfl ⟨ys, rfl, HS.out, by rw [← HV.out]; exact HC.out, bSetRow bel2 (by omega) _⟩

set_option maxRecDepth 20000 in
set_option maxHeartbeats 1000000 in
theorem below128_any (a : List Nat) (ha : Sm a) (w : World) :
    Calls Try.prog 20 #[.agg (ns a)] w fun e w' => ∃ ys, e = .returned (.agg (ns ys)) ∧ Sm ys ∧ V5 ys = V5 a % 340282366920938463463374607431768211456 ∧ Below w.heap.size w w' := by
  have HA := veil ha
  have r0 : Row ((w.alloc (.cells (ns a) 39)).alloc (.cells (ns (List.replicate 5 0)) 39)) w.heap.size 39 (ns a) := (Row.new _ _ _).alloc _
  have r1 : Row ((w.alloc (.cells (ns a) 39)).alloc (.cells (ns (List.replicate 5 0)) 39)) (w.heap.size + 1) 39 (ns (List.replicate 5 0)) := Row.new1 _ _ _ _
  have hbel : Below w.heap.size w ((w.alloc (.cells (ns a) 39)).alloc (.cells (ns (List.replicate 5 0)) 39)) := ((Below.refl _ w).alloc (Nat.le_refl _) _).alloc (by simp) _
  have cx := r0.cellN (j := 4) (by rw [ha.len]; omega)
  have fx := r0.frozen 4
  obtain ⟨x, hxe⟩ : ∃ x, x = gn a 4 := ⟨_, rfl⟩
  have hx26 : x < 67108864 := by rw [hxe]; exact ha.lt _
  rw [← hxe] at cx
  have hm24 : bits .and .u64 (x : Int) 16777215 = (x : Int) % 16777216 := and24 _ (by omega) (by omega)
  have E1 := veil (show (x : Int) % 16777216 = ((x % 16777216 : Nat) : Int) by omega)
  have q0 := r0.set 4 (.int .u64 ((x % 16777216 : Nat) : Int))
  rw [ns_set] at q0
  have HS : Hid (Sm (a.set 4 (x % 16777216))) := show Sm _ from ⟨by rw [List.length_set]; exact ha.len, fun i => by
    rw [gn_set]
    split
    · omega
    · exact ha.lt i⟩
  have HV : Hid (V5 (a.set 4 (x % 16777216)) = V5 a % 340282366920938463463374607431768211456) := show _ = _ by
    have h0 := ha.lt 0
    have h1 := ha.lt 1
    have h2 := ha.lt 2
    have h3 := ha.lt 3
    have h4 := ha.lt 4
    rw [hxe]
    obtain ⟨a0, b0, c0, d0, e0, rfl⟩ := five ha.len
    simp [V5, gn] at h0 h1 h2 h3 h4 ⊢
    omega
  have c4 := ns_get a 4 (by rw [ha.len]; omega)
  rw [← hxe] at c4
  have hz : ((ns a).setIfInBounds 4 (.int .u64 ((x : Int) % 16777216))).size = 5 := by rw [Array.size_setIfInBounds, ns_size, ha.len]
  have hone : Hid (((ns a).setIfInBounds 4 (.int .u64 ((x : Int) % 16777216))).all (·.oneCell') = true) := show _ = _ by rw [E1.out, ns_set]; exact ns_one _
  have HE : Hid ((ns a).setIfInBounds 4 (.int .u64 ((x : Int) % 16777216)) = ns (a.set 4 (x % 16777216))) := show _ = _ by rw [E1.out, ns_set]
  clear ha hxe cx q0 r0 r1 fx hbel
  go_enter Try.func20, Try.ntmps20
  go_wp2_with (first
    | (with_reducible (show wpList _ _ _ (⟨_, Op.load 39 _, _, _, _, _⟩ :: _) _ _)
       refine load_row rfl 39 _ rfl w.heap.size rfl _ _ ((Row.new _ _ _).alloc _) 5 37 Try.underlying39 (by kernel_rfl) hz ?_)
    | (with_reducible (show wpList _ _ _ (⟨_, Op.store 39 _ _, _, _, _, _⟩ :: _) _ _)
       refine store_row rfl 39 _ _ rfl (w.heap.size + 1) _ rfl rfl _ _ (Row.new1 _ _ _ _) 5 (by kernel_rfl) rfl hz hone.out ?_))
  refine bodyPost_ret (result_row rfl _ _ (w.heap.size + 1) _ _ ((Row.new1 _ _ _ _).put _) 5 37 rfl Try.underlying39 (by kernel_rfl) hz) rfl ⟨_, by rw [HE.out], HS.out, HV.out, bSetRow (((Below.refl _ w).alloc (Nat.le_refl _) _).alloc (by simp) _) (by omega) _⟩
end Go.Proofs.Ytholddbmnlnkkaa
