/-
  FlowGoes: the walk.
-/
import Derived.Test.YtepkajaallcnmaaFlLives
namespace Go.Proofs.Ytepkajaallcnmaa
open Go Go.RowKit

theorem goes_spend (v k : Nat) (hv : 1 ≤ v) (hv2 : v ≤ 65536) (hk : k ≤ 256) :
    leftC ((k + 1) * v) (k * v) = v ∧ spendE ((k + 1) * v) (k * v) v = 0 ∧ spendO ((k + 1) * v) (k * v) v = ((k + 1) * v, (k + 1) * v) ∧ cameE ((k + 1) * v) (k * v) ((k + 1) * v) = 0 ∧ cameO ((k + 1) * v) (k * v) ((k + 1) * v) = ((k + 1) * v, (k + 1) * v) ∧ offerB ((k + 1) * v) ((k + 1) * v) ((k + 1) * v) v = true ∧ offerO ((k + 1) * v) ((k + 1) * v) ((k + 1) * v) v = (k + 2) * v ∧ raiseE ((k + 1) * v) ((k + 1) * v) ((k + 2) * v) = 0 ∧ raiseO ((k + 1) * v) ((k + 1) * v) ((k + 2) * v) = ((k + 2) * v, (k + 1) * v) := by
  have e1 : (k + 1) * v = k * v + v := by rw [Nat.add_mul, Nat.one_mul]
  have e2 : (k + 2) * v = k * v + 2 * v := Nat.add_mul k 2 v
  have hb : k * v ≤ 256 * 65536 := Nat.mul_le_mul hk hv2
  rw [e1, e2]
  generalize k * v = x at *
  have m1 : mayC (x + v) x = true := mayC_yes (by omega) (by omega)
  have m2 : mayC (x + v) (x + v) = true := mayC_yes (by omega) (by omega)
  have hs : spendE (x + v) x v = 0 := by unfold spendE; rw [if_pos ⟨m1, by omega⟩, if_pos (by omega)]
  have hc : cameE (x + v) x (x + v) = 0 := by unfold cameE; rw [if_pos ⟨m1, by omega⟩, if_pos (Nat.le_refl _)]
  have hl : limC (x + v) v = x + 2 * v := by unfold limC; rw [show Nat.min (x + v + v) 4611686018427387903 = x + v + v from Nat.min_eq_left (by omega)]; omega
  have ho : offerB (x + v) (x + v) (x + v) v = true := by
    unfold offerB
    rw [m2, hl, decide_eq_true (show x + v ≤ 4611686018427387903 by omega), decide_eq_true (show v ≤ 4611686018427387903 by omega), decide_eq_true (show x + v < x + 2 * v by omega), decide_eq_true (show v ≤ 2 * (x + 2 * v - (x + v)) by omega)]
    rfl
  have hr : raiseE (x + v) (x + v) (x + 2 * v) = 0 := by unfold raiseE; rw [if_pos ⟨m2, by omega⟩]
  refine ⟨by unfold leftC; rw [if_pos m1]; omega, hs, by unfold spendO; rw [if_pos hs], hc, by unfold cameO; rw [if_pos hc, show Nat.max x (x + v) = x + v from Nat.max_eq_right (by omega)], ho, by unfold offerO; rw [if_pos ho, hl], hr, by unfold raiseO; rw [if_pos hr, show Nat.max (x + v) (x + 2 * v) = x + 2 * v from Nat.max_eq_right (by omega)]⟩

theorem goes_left (v k : Nat) (w : World) (hv : 1 ≤ v) (hv2 : v ≤ 65536) (hk : k ≤ 256) : Calls Try.prog 17 #[.agg (crd ((k + 1) * v, k * v))] w fun e w' => e = .returned (.int .u64 (v : Int)) ∧ Below w.heap.size w w' := by
  have h := left_any ((k + 1) * v) (k * v) w
  rw [(goes_spend v k hv hv2 hk).1] at h
  exact h
theorem goes_small {v k : Nat} (hv2 : v ≤ 65536) (hk : k ≤ 258) : k * v < 18446744073709551616 := Nat.lt_of_le_of_lt (Nat.mul_le_mul hk hv2) (by decide)
theorem goes_spent (v k : Nat) (w : World) (hv : 1 ≤ v) (hv2 : v ≤ 65536) (hk : k ≤ 256) : Calls Try.prog 8 #[.agg (crd ((k + 1) * v, k * v)), .int .u64 (v : Int)] w fun e w' => e = .returned (.tuple #[.agg #[.int .u64 (((k + 1) * v : Nat) : Int), .int .u64 (((k + 1) * v : Nat) : Int)], .int .i64 0]) ∧ Below w.heap.size w w' := by
  have h := spend_any ((k + 1) * v) (k * v) v w (by omega)
  have q := goes_spend v k hv hv2 hk
  rw [q.2.1, q.2.2.1] at h
  exact h
theorem goes_came (v k : Nat) (w : World) (hv : 1 ≤ v) (hv2 : v ≤ 65536) (hk : k ≤ 256) : Calls Try.prog 10 #[.agg (crd ((k + 1) * v, k * v)), .int .u64 (((k + 1) * v : Nat) : Int)] w fun e w' => e = .returned (.tuple #[.agg #[.int .u64 (((k + 1) * v : Nat) : Int), .int .u64 (((k + 1) * v : Nat) : Int)], .int .i64 0]) ∧ Below w.heap.size w w' := by
  have h := came_any ((k + 1) * v) (k * v) ((k + 1) * v) w (goes_small hv2 (by omega))
  have q := goes_spend v k hv hv2 hk
  rw [q.2.2.2.1, q.2.2.2.2.1] at h
  exact h
theorem goes_offer (v k : Nat) (w : World) (hv : 1 ≤ v) (hv2 : v ≤ 65536) (hk : k ≤ 256) : Calls Try.prog 11 #[.agg (crd ((k + 1) * v, (k + 1) * v)), .int .u64 (((k + 1) * v : Nat) : Int), .int .u64 (v : Int)] w fun e w' => e = .returned (.tuple #[.int .u64 (((k + 2) * v : Nat) : Int), .bool true]) ∧ Below w.heap.size w w' := by
  have h := offer_any ((k + 1) * v) ((k + 1) * v) ((k + 1) * v) v w (goes_small hv2 (by omega)) (by omega)
  have q := goes_spend v k hv hv2 hk
  rw [q.2.2.2.2.2.1, q.2.2.2.2.2.2.1] at h
  exact h
theorem goes_raise (v k : Nat) (w : World) (hv : 1 ≤ v) (hv2 : v ≤ 65536) (hk : k ≤ 256) : Calls Try.prog 9 #[.agg (crd ((k + 1) * v, (k + 1) * v)), .int .u64 (((k + 2) * v : Nat) : Int)] w fun e w' => e = .returned (.tuple #[.agg #[.int .u64 (((k + 2) * v : Nat) : Int), .int .u64 (((k + 1) * v : Nat) : Int)], .int .i64 0]) ∧ Below w.heap.size w w' := by
  have h := raise_any ((k + 1) * v) ((k + 1) * v) ((k + 2) * v) w (goes_small hv2 (by omega))
  have q := goes_spend v k hv hv2 hk
  rw [q.2.2.2.2.2.2.2.1, q.2.2.2.2.2.2.2.2] at h
  exact h

set_option maxRecDepth 20000 in
set_option maxHeartbeats 2000000 in
theorem goes_walk (n r : Nat) (w : World) (hn : n < 65536) (hr : r < 256) :
    Calls Try.prog 7 #[.int .u16 (n : Int), .int .u8 (r : Int)] w fun e w' => e = .returned (.bool true) ∧ Below w.heap.size w w' := by
  obtain ⟨v, hv⟩ : ∃ v, n + 1 = v := ⟨_, rfl⟩
  have hvI : (n : Int) + 1 = (v : Int) := by omega
  have hv1 : 1 ≤ v := by omega
  have hv2 : v ≤ 65536 := by omega
  clear hv
  have LC := veil (fun k w (hk : k ≤ 256) => goes_left v k w hv1 hv2 hk)
  have SC := veil (fun k w (hk : k ≤ 256) => goes_spent v k w hv1 hv2 hk)
  have CC := veil (fun k w (hk : k ≤ 256) => goes_came v k w hv1 hv2 hk)
  have OC := veil (fun k w (hk : k ≤ 256) => goes_offer v k w hv1 hv2 hk)
  have RC := veil (fun k w (hk : k ≤ 256) => goes_raise v k w hv1 hv2 hk)
  obtain ⟨W0, hW0⟩ : ∃ W, (w.alloc (.cells #[.int .u64 (v : Int), .int .u64 0] 24)).alloc (.cells #[.int .u64 (v : Int), .int .u64 0] 24) = W := ⟨_, rfl⟩
  have r0 : Row W0 w.heap.size 24 (crd (v, 0)) := by rw [← hW0]; exact (Row.new _ _ _).alloc _
  have r1 : Row W0 (w.heap.size + 1) 24 (crd (v, 0)) := by rw [← hW0]; exact Row.new1 _ _ _ _
  have b0 : Below w.heap.size w W0 := by rw [← hW0]; exact ((Below.refl w.heap.size w).alloc (Nat.le_refl _) _).alloc (by simp) _
  have R0 := veil r0
  have R1 := veil r1
  have B0 := veil b0
  have HW := veil hW0
  clear r0 r1 b0 hW0
  go_enter Try.func7, Try.ntmps7
  go_wp2_with fail
  rw [HW.out]
  go_loopw [8] (fun i wr => ∃ k : Nat, k ≤ r ∧ i = .int .i64 (k : Int) ∧ Row wr w.heap.size 24 (crd ((k + 1) * v, k * v)) ∧ Row wr (w.heap.size + 1) 24 (crd ((k + 1) * v, k * v)) ∧ Below w.heap.size w wr)
    (fun i _ => r - (intOf i).toNat)
  case atStart => exact ⟨0, Nat.zero_le _, rfl, by rw [Nat.zero_add, Nat.one_mul, Nat.zero_mul]; exact R0.out, by rw [Nat.zero_add, Nat.one_mul, Nat.zero_mul]; exact R1.out, B0.out⟩
  case round =>
    obtain ⟨k, hk, rfl, hr0, hr1, hbel⟩ := hrel
    by_cases hlt : k < r
    · have hk256 : k ≤ 256 := by omega
      have lc := LC.out k wr hk256
      have sc := fun w => SC.out k w hk256
      have cc := fun w => CC.out k w hk256
      have oc := fun w => OC.out k w hk256
      have rc := fun w => RC.out k w hk256
      have nx : ∀ wr', Row wr' w.heap.size 24 (crd ((k + 2) * v, (k + 1) * v)) → Row wr' (w.heap.size + 1) 24 (crd ((k + 2) * v, (k + 1) * v)) → Below w.heap.size w wr' → ∃ k' : Nat, k' ≤ r ∧ Value.int .i64 ((k : Int) + 1) = .int .i64 (k' : Int) ∧ Row wr' w.heap.size 24 (crd ((k' + 1) * v, k' * v)) ∧ Row wr' (w.heap.size + 1) 24 (crd ((k' + 1) * v, k' * v)) ∧ Below w.heap.size w wr' := fun wr' h1 h2 h3 => ⟨k + 1, hlt, rfl, h1, h2, h3⟩
      have NX := veil nx
      clear nx
      generalize (k + 2) * v = M2 at *
      generalize (k + 1) * v = M1 at *
      generalize k * v = M0 at *
      have hv0 : ((v : Int) == 0) = false := by simp; omega
      have LC1 := veil lc
      have SC1 := veil sc
      have CC1 := veil cc
      have OC1 := veil oc
      have RC1 := veil rc
      have HA := veil hr0
      have HB := veil hr1
      have HBE := veil hbel
      clear lc sc cc oc rc LC SC CC OC RC hr0 hr1 hbel R0 R1 B0 HW
      have a0 : wr.cell? ⟨w.heap.size, 0, none⟩ = some (.int .u64 (M1 : Int)) := HA.out.cell 0
      have a1 : wr.cell? ⟨w.heap.size, 1, none⟩ = some (.int .u64 (M0 : Int)) := HA.out.cell 1
      go_wp2_with fail
      refine LC1.out.mono ?_
      rintro e1 w1 ⟨rfl, hb1⟩
      have A1 := veil (HA.out.below hb1 HA.out.lt)
      have B1 := veil (HB.out.below hb1 HB.out.lt)
      have E1 := veil (HBE.out.trans (hb1.mono HBE.out.size))
      clear hb1 a0 a1 HA HB HBE LC1
      have a0 : w1.cell? ⟨w.heap.size, 0, none⟩ = some (.int .u64 (M1 : Int)) := A1.out.cell 0
      have a1 : w1.cell? ⟨w.heap.size, 1, none⟩ = some (.int .u64 (M0 : Int)) := A1.out.cell 1
      go_wp2_with fail
      refine (SC1.out w1).mono ?_
      rintro e2 w2 ⟨rfl, hb2⟩
      have A2 := veil ((A1.out.below hb2 A1.out.lt).alloc (.cells #[.int .u64 (M1 : Int), .int .u64 (M1 : Int)] 24))
      have B2 := veil ((B1.out.below hb2 B1.out.lt).alloc (.cells #[.int .u64 (M1 : Int), .int .u64 (M1 : Int)] 24))
      have X2 := veil (Row.new w2 24 #[.int .u64 (M1 : Int), .int .u64 (M1 : Int)])
      have e2 := E1.out.trans (hb2.mono E1.out.size)
      have E2 := veil (e2.alloc e2.size (.cells #[.int .u64 (M1 : Int), .int .u64 (M1 : Int)] 24))
      have L2 : Hid (w.heap.size + 1 < w2.heap.size) := veil (Nat.lt_of_lt_of_le B1.out.lt hb2.size)
      clear hb2 a0 a1 A1 B1 E1 SC1 e2
      have a0 : (w2.alloc (.cells #[.int .u64 (M1 : Int), .int .u64 (M1 : Int)] 24)).cell? ⟨w.heap.size + 1, 0, none⟩ = some (.int .u64 (M1 : Int)) := B2.out.cell 0
      have a1 : (w2.alloc (.cells #[.int .u64 (M1 : Int), .int .u64 (M1 : Int)] 24)).cell? ⟨w.heap.size + 1, 1, none⟩ = some (.int .u64 (M0 : Int)) := B2.out.cell 1
      have x0 : (w2.alloc (.cells #[.int .u64 (M1 : Int), .int .u64 (M1 : Int)] 24)).cell? ⟨w2.heap.size, 0, none⟩ = some (.int .u64 (M1 : Int)) := X2.out.cell 0
      have x1 : (w2.alloc (.cells #[.int .u64 (M1 : Int), .int .u64 (M1 : Int)] 24)).cell? ⟨w2.heap.size, 1, none⟩ = some (.int .u64 (M1 : Int)) := X2.out.cell 1
      go_wp2_with fail
      generalize hq : w2.alloc (.cells #[.int .u64 (M1 : Int), .int .u64 (M1 : Int)] 24) = q2 at *
      have HX : Hid (w2.heap.size < q2.heap.size) := veil (by rw [← hq]; simp)
      clear hq
      generalize w2.heap.size = gx at *
      refine (CC1.out q2).mono ?_
      rintro e3 w3 ⟨rfl, hb3⟩
      have A3 := veil ((A2.out.below hb3 A2.out.lt).alloc (.cells #[.int .u64 (M1 : Int), .int .u64 (M1 : Int)] 24))
      have B3 := veil ((B2.out.below hb3 B2.out.lt).alloc (.cells #[.int .u64 (M1 : Int), .int .u64 (M1 : Int)] 24))
      have X3 := veil ((X2.out.below hb3 X2.out.lt).alloc (.cells #[.int .u64 (M1 : Int), .int .u64 (M1 : Int)] 24))
      have Y3 := veil (Row.new w3 24 #[.int .u64 (M1 : Int), .int .u64 (M1 : Int)])
      have e3 := E2.out.trans (hb3.mono E2.out.size)
      have E3 := veil (e3.alloc e3.size (.cells #[.int .u64 (M1 : Int), .int .u64 (M1 : Int)] 24))
      have L3 : Hid (gx < w3.heap.size) := veil (Nat.lt_of_lt_of_le HX.out hb3.size)
      clear hb3 a0 a1 x0 x1 A2 B2 X2 E2 CC1 e3 HX
      have a0 : (w3.alloc (.cells #[.int .u64 (M1 : Int), .int .u64 (M1 : Int)] 24)).cell? ⟨w3.heap.size, 0, none⟩ = some (.int .u64 (M1 : Int)) := Y3.out.cell 0
      have a1 : (w3.alloc (.cells #[.int .u64 (M1 : Int), .int .u64 (M1 : Int)] 24)).cell? ⟨w3.heap.size, 1, none⟩ = some (.int .u64 (M1 : Int)) := Y3.out.cell 1
      have x0 : (w3.alloc (.cells #[.int .u64 (M1 : Int), .int .u64 (M1 : Int)] 24)).cell? ⟨gx, 0, none⟩ = some (.int .u64 (M1 : Int)) := X3.out.cell 0
      have x1 : (w3.alloc (.cells #[.int .u64 (M1 : Int), .int .u64 (M1 : Int)] 24)).cell? ⟨gx, 1, none⟩ = some (.int .u64 (M1 : Int)) := X3.out.cell 1
      go_wp2_with fail
      generalize hq : w3.alloc (.cells #[.int .u64 (M1 : Int), .int .u64 (M1 : Int)] 24) = q3 at *
      clear hq
      generalize w3.heap.size = gy at *
      refine (OC1.out q3).mono ?_
      rintro e4 w4 ⟨rfl, hb4⟩
      have A4 := veil (A3.out.below hb4 A3.out.lt)
      have B4 := veil (B3.out.below hb4 B3.out.lt)
      have X4 := veil (X3.out.below hb4 X3.out.lt)
      have Y4 := veil (Y3.out.below hb4 Y3.out.lt)
      have E4 := veil (E3.out.trans (hb4.mono E3.out.size))
      clear hb4 a0 a1 x0 x1 A3 B3 X3 Y3 E3 OC1
      have x0 : w4.cell? ⟨gx, 0, none⟩ = some (.int .u64 (M1 : Int)) := X4.out.cell 0
      have x1 : w4.cell? ⟨gx, 1, none⟩ = some (.int .u64 (M1 : Int)) := X4.out.cell 1
      go_wp2_with fail
      refine (RC1.out w4).mono ?_
      rintro e5 w5 ⟨rfl, hb5⟩
      have r5 := A4.out.below hb5 A4.out.lt
      have A5 := veil ((r5.set 0 (.int .u64 (M2 : Int))).set 1 (.int .u64 (M1 : Int)))
      have B5 := veil (((B4.out.below hb5 B4.out.lt).other (a := ⟨w.heap.size, 0, none⟩) (by simp) (.int .u64 (M2 : Int))).other (a := ⟨w.heap.size, 1, none⟩) (by simp) (.int .u64 (M1 : Int)))
      have Y5 := veil (((Y4.out.below hb5 Y4.out.lt).other (a := ⟨w.heap.size, 0, none⟩) (by have h1 := L2.out; have h2 := L3.out; show gy ≠ w.heap.size; omega) (.int .u64 (M2 : Int))).other (a := ⟨w.heap.size, 1, none⟩) (by have h1 := L2.out; have h2 := L3.out; show gy ≠ w.heap.size; omega) (.int .u64 (M1 : Int)))
      have e5 := E4.out.trans (hb5.mono E4.out.size)
      have E5 := veil ((e5.setCell (p := ⟨w.heap.size, 0, none⟩) (Nat.le_refl _) (.int .u64 (M2 : Int))).setCell (p := ⟨w.heap.size, 1, none⟩) (Nat.le_refl _) (.int .u64 (M1 : Int)))
      have o0 : w5.cell? ⟨w.heap.size, 0, none⟩ = some (.int .u64 (M1 : Int)) := r5.cell 0
      have o1 : w5.cell? ⟨w.heap.size, 1, none⟩ = some (.int .u64 (M0 : Int)) := r5.cell 1
      have f0 := r5.frozen 0
      have f1 := r5.frozen 1
      clear hb5 x0 x1 r5 e5 A4 B4 X4 Y4 E4
      have y0 : ((w5.setCell ⟨w.heap.size, 0, none⟩ (.int .u64 (M2 : Int))).setCell ⟨w.heap.size, 1, none⟩ (.int .u64 (M1 : Int))).cell? ⟨gy, 0, none⟩ = some (.int .u64 (M1 : Int)) := Y5.out.cell 0
      have y1 : ((w5.setCell ⟨w.heap.size, 0, none⟩ (.int .u64 (M2 : Int))).setCell ⟨w.heap.size, 1, none⟩ (.int .u64 (M1 : Int))).cell? ⟨gy, 1, none⟩ = some (.int .u64 (M1 : Int)) := Y5.out.cell 1
      go_wp2_with fail
      generalize ((w5.setCell ⟨w.heap.size, 0, none⟩ (.int .u64 (M2 : Int))).setCell ⟨w.heap.size, 1, none⟩ (.int .u64 (M1 : Int))) = q5 at *
      refine (RC1.out q5).mono ?_
      rintro e6 w6 ⟨rfl, hb6⟩
      have r6 := B5.out.below hb6 B5.out.lt
      have A6 := veil (((A5.out.below hb6 A5.out.lt).other (a := ⟨w.heap.size + 1, 0, none⟩) (by simp) (.int .u64 (M2 : Int))).other (a := ⟨w.heap.size + 1, 1, none⟩) (by simp) (.int .u64 (M1 : Int)))
      have B6 := veil ((r6.set 0 (.int .u64 (M2 : Int))).set 1 (.int .u64 (M1 : Int)))
      have e6 := E5.out.trans (hb6.mono E5.out.size)
      have E6 := veil ((e6.setCell (p := ⟨w.heap.size + 1, 0, none⟩) (by simp) (.int .u64 (M2 : Int))).setCell (p := ⟨w.heap.size + 1, 1, none⟩) (by simp) (.int .u64 (M1 : Int)))
      have g0 : w6.cell? ⟨w.heap.size + 1, 0, none⟩ = some (.int .u64 (M1 : Int)) := r6.cell 0
      have g1 : w6.cell? ⟨w.heap.size + 1, 1, none⟩ = some (.int .u64 (M0 : Int)) := r6.cell 1
      have h0 := r6.frozen 0
      have h1 := r6.frozen 1
      clear hb6 y0 y1 o0 o1 f0 f1 r6 e6 A5 B5 Y5 E5 RC1
      go_wp2_with fail
      go_roundw
      case rel => exact NX.out _ A6.out B6.out E6.out
      case measure => simp [intOf]; omega
    · obtain rfl : k = r := by omega
      have HBE := veil hbel
      clear hr0 hr1 hbel hlt hk LC SC CC OC RC R0 R1 B0 HW
      go_wp2_with fail
      refine (lives_any wr).mono ?_
      rintro e1 w1 ⟨rfl, hb1⟩
      have E1 := veil (HBE.out.trans (hb1.mono HBE.out.size))
      clear hb1
      go_wp2_with fail
      go_ret
      exact ⟨rfl, E1.out⟩
end Go.Proofs.Ytepkajaallcnmaa
