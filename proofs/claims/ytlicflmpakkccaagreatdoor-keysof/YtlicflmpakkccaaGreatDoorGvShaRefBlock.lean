/-
  What the document's Block answers.
-/
import Derived.Test.YtlicflmpakkccaaGreatDoorGv8
import Derived.Test.YtlicflmpakkccaaGreatDoorGv11
import Derived.Deep.QuietTactic
import Derived.BigQuiet
import Derived.BigRegion
import Derived.Deep.RegionHeld3
namespace Go.Proofs.YtlicflmpakkccaaGreatDoor
open Go Go.RowKit

set_option maxRecDepth 20000 in
set_option maxHeartbeats 1000000 in
theorem refBlock_any (s : List Wd) (b : List By) (hs : s.length = 8) (hb : b.length = 64) (w : World) :
    Calls Tryz.prog 87 #[.agg (ws s), .agg (bs b)] w fun e w' => e = .returned (.agg (ws (furtherL s KW b))) ∧ Below w.heap.size w w' := by
  have HS : Hid (s.length = 8) := hs
  have HB : Hid (b.length = 64) := hb
  clear hs hb
  go_enter Tryz.func87, Tryz.ntmps87
  go_wp2
  go_loopw [6] (fun i wr => ∃ t : Nat, t ≤ 16 ∧ i = .int .i64 t ∧ Row wr w.heap.size 82 (ws s) ∧ Row wr (w.heap.size + 1) 74 (bs b) ∧ Row wr (w.heap.size + 1 + 1) 82 (ws (List.replicate 8 0)) ∧ Row wr (w.heap.size + 1 + 1 + 1) 80 (ws ((first16 b).take t ++ List.replicate (64 - t) 0)) ∧ Below w.heap.size w wr)
    (fun i _ => 16 - (intOf i).toNat)
  case atStart =>
    refine ⟨0, by omega, rfl, (((Row.new _ _ _).alloc _).alloc _).alloc _, ((Row.new1 _ _ _ _).alloc _).alloc _, (Row.new2 _ _ _ _ (ws (List.replicate 8 0))).alloc _, Row.new3 _ _ _ _ _ (ws (List.replicate 64 0)), ((((Below.refl _ w).alloc (Nat.le_refl _) _).alloc (by simp) _).alloc (by simp; omega) _).alloc (by simp; omega) _⟩
  case round =>
    obtain ⟨t, ht, rfl, r0, r1, r2, r3, hbel⟩ := hrel
    by_cases hlt : t < 16
    · have hbl : (bs b).size = 64 := by rw [bs_size, HB.out]
      have c0 := r1.cellB (j := 4 * t) (by rw [HB.out]; omega)
      have c1 := r1.cellB (j := 4 * t + 1) (by rw [HB.out]; omega)
      have c2 := r1.cellB (j := 4 * t + 2) (by rw [HB.out]; omega)
      have c3 := r1.cellB (j := 4 * t + 3) (by rw [HB.out]; omega)
      obtain ⟨v, hv⟩ : ∃ v, wr.cell? ⟨w.heap.size + 1 + 1 + 1, t, none⟩ = some v := ⟨_, r3.cellW (by simp [first16_length]; omega)⟩
      have f3 := r3.frozen t
      have HG : Hid (((first16 b).take t ++ List.replicate (64 - t) 0).set t (word4 b t) = (first16 b).take (t + 1) ++ List.replicate (64 - (t + 1)) 0) := fill_set2 (first16 b) 0 t 64 (by rw [first16_length]; omega) (by omega) _ (first16_get b t hlt HB.out)
      have HW : Hid (word4 b t = oo (oo (oo (sl (ex (gb b (4 * t))) 24) (sl (ex (gb b (4 * t + 1))) 16)) (sl (ex (gb b (4 * t + 2))) 8)) (ex (gb b (4 * t + 3)))) := rfl
      rw [v8_ex] at c0 c1 c2 c3
      generalize gb b (4 * t) = b0 at *
      generalize gb b (4 * t + 1) = b1 at *
      generalize gb b (4 * t + 2) = b2 at *
      generalize gb b (4 * t + 3) = b3 at *
      have u0 := u_nn (ex b0); have u1 := u_nn (ex b1); have u2 := u_nn (ex b2); have u3 := u_nn (ex b3)
      have l0 : u (ex b0) ≤ 255 := by rw [← v8_ex]; exact v8_le _
      have l1 : u (ex b1) ≤ 255 := by rw [← v8_ex]; exact v8_le _
      have l2 : u (ex b2) ≤ 255 := by rw [← v8_ex]; exact v8_le _
      have l3 : u (ex b3) ≤ 255 := by rw [← v8_ex]; exact v8_le _
      have hw0 : IntKind.i64.wrap (4 * (t : Int)) = 4 * (t : Int) := by rw [IntKind.wrap_i64]; omega
      have hw1 : IntKind.i64.wrap (4 * (t : Int) + 1) = 4 * (t : Int) + 1 := by rw [IntKind.wrap_i64]; omega
      have hw2 : IntKind.i64.wrap (4 * (t : Int) + 2) = 4 * (t : Int) + 2 := by rw [IntKind.wrap_i64]; omega
      have hw3 : IntKind.i64.wrap (4 * (t : Int) + 3) = 4 * (t : Int) + 3 := by rw [IntKind.wrap_i64]; omega
      have q0 : (4 * (t : Int)).toNat = 4 * t := by omega
      have q1 : (4 * (t : Int) + 1).toNat = 4 * t + 1 := by omega
      have q2 : (4 * (t : Int) + 2).toNat = 4 * t + 2 := by omega
      have q3 : (4 * (t : Int) + 3).toNat = 4 * t + 3 := by omega
      have p0 : (0 : Int) ≤ 4 * (t : Int) ∧ 4 * (t : Int) < 64 := by omega
      have p1 : (0 : Int) ≤ 4 * (t : Int) + 1 ∧ 4 * (t : Int) + 1 < 64 := by omega
      have p2 : (0 : Int) ≤ 4 * (t : Int) + 2 ∧ 4 * (t : Int) + 2 < 64 := by omega
      have p3 : (0 : Int) ≤ 4 * (t : Int) + 3 ∧ 4 * (t : Int) + 3 < 64 := by omega
      have p4 : (0 : Int) ≤ (t : Int) ∧ (t : Int) < 64 := by omega
      clear hbl
      have HV : Hid (bits .or .u32 (bits .or .u32 (bits .or .u32 (u (ex b0) * 16777216) (u (ex b1) * 65536)) (u (ex b2) * 256)) (u (ex b3)) = u (word4 b t)) := show _ = _ by
        rw [shlS (ex b0) 24 16777216 (by decide) (by omega), shlS (ex b1) 16 65536 (by decide) (by omega), shlS (ex b2) 8 256 (by decide) (by omega), bo, bo, bo, HW.out]
      go_wp2
      go_region
      all_goals go_wp2
      all_goals
        go_roundw
        case rel =>
          rw [HV.out]
          refine ⟨t + 1, by omega, by go_num, r0.other (by show w.heap.size ≠ w.heap.size + 1 + 1 + 1; omega) _, r1.other (by show w.heap.size + 1 ≠ w.heap.size + 1 + 1 + 1; omega) _, r2.other (by show w.heap.size + 1 + 1 ≠ w.heap.size + 1 + 1 + 1; omega) _, ?_, (hbel.setCell (p := ⟨w.heap.size + 1 + 1 + 1, t, none⟩) (by show w.heap.size ≤ w.heap.size + 1 + 1 + 1; omega) _).drew⟩
          have := r3.set t (.int .u32 (u (word4 b t)))
          rw [ws_set, HG.out] at this
          exact this
        case measure => simp [intOf]; omega
    · have r4 : Row wr (w.heap.size + 1 + 1 + 1) 80 (ws (schedR b 0)) := by
        have := r3
        rw [show t = 16 by omega, List.take_of_length_le (by rw [first16_length]; exact Nat.le_refl _)] at this
        exact this
      have hd : decide ((t : Int) < 16) = false := by simp; omega
      clear r3 r1
      go_wp2
      go_loopw [7] (fun i wr => ∃ t : Nat, 16 ≤ t ∧ t ≤ 64 ∧ i = .int .i64 t ∧ Row wr w.heap.size 82 (ws s) ∧ Row wr (w.heap.size + 1 + 1) 82 (ws (List.replicate 8 0)) ∧ Row wr (w.heap.size + 1 + 1 + 1) 80 (ws (schedR b (t - 16))) ∧ Below w.heap.size w wr)
        (fun i _ => 64 - (intOf i).toNat)
      case atStart => exact ⟨16, by omega, by omega, rfl, r0, r2, r4, hbel⟩
      case round =>
        clear r0 r2 r4 hbel hd ht hlt
        obtain ⟨t, ht0, ht, rfl, r0, r2, r3, hbel⟩ := hrel
        by_cases hlt : t < 64
        · have hlen : (schedR b (t - 16)).length = 64 := schedR_length b _ (by omega)
          have c2 := r3.cellW (j := t - 2) (by rw [hlen]; omega)
          have c15 := r3.cellW (j := t - 15) (by rw [hlen]; omega)
          have c7 := r3.cellW (j := t - 7) (by rw [hlen]; omega)
          have c16 := r3.cellW (j := t - 16) (by rw [hlen]; omega)
          obtain ⟨v, hv⟩ : ∃ v, wr.cell? ⟨w.heap.size + 1 + 1 + 1, t, none⟩ = some v := ⟨_, r3.cellW (by rw [hlen]; omega)⟩
          have f3 := r3.frozen t
          have hst : Hid ((schedR b (t - 16)).set t (ad (ad (ad (s1 (gw (schedR b (t - 16)) (t - 2))) (gw (schedR b (t - 16)) (t - 7))) (s0 (gw (schedR b (t - 16)) (t - 15)))) (gw (schedR b (t - 16)) (t - 16))) = schedR b (t + 1 - 16)) := by
            have := schedR_step b (t - 16) (by omega)
            rw [show 16 + (t - 16) = t by omega, show t - 16 + 1 = t + 1 - 16 by omega] at this
            exact this
          generalize gw (schedR b (t - 16)) (t - 2) = x2 at *
          generalize gw (schedR b (t - 16)) (t - 7) = x7 at *
          generalize gw (schedR b (t - 16)) (t - 15) = x15 at *
          generalize gw (schedR b (t - 16)) (t - 16) = x16 at *
          clear hlen
          have h10 : u x2 / 1024 = u (sr x2 10) := wsr x2 10
          have h3 : u x15 / 8 = u (sr x15 3) := wsr x15 3
          have hx1 := bx (rr x2 17) (rr x2 19)
          have hx2 : bits .xor .u32 (u (xr (rr x2 17) (rr x2 19))) (u (sr x2 10)) = u (s1 x2) := bx _ _
          have hx3 := bx (rr x15 7) (rr x15 18)
          have hx4 : bits .xor .u32 (u (xr (rr x15 7) (rr x15 18))) (u (sr x15 3)) = u (s0 x15) := bx _ _
          have hp1 := wadd (s1 x2) x7
          have hp2 := wadd (ad (s1 x2) x7) (s0 x15)
          have hp3 := wadd (ad (ad (s1 x2) x7) (s0 x15)) x16
          have hw7 : IntKind.i64.wrap ((t : Int) - 7) = (t : Int) - 7 := by rw [IntKind.wrap_i64]; omega
          have hw16 : IntKind.i64.wrap ((t : Int) - 16) = (t : Int) - 16 := by rw [IntKind.wrap_i64]; omega
          have hq7 : ((t : Int) - 7).toNat = t - 7 := by omega
          have hq16 : ((t : Int) - 16).toNat = t - 16 := by omega
          have hl7 : (0 : Int) ≤ (t : Int) - 7 ∧ (t : Int) - 7 < 64 := by omega
          have hl16 : (0 : Int) ≤ (t : Int) - 16 ∧ (t : Int) - 16 < 64 := by omega
          have hlt' : (0 : Int) ≤ (t : Int) ∧ (t : Int) < 64 := by omega
          have h7a : 7 ≤ t := by omega
          have h7b : (7 : Int) ≤ (t : Int) := by omega
          have h16b : (16 : Int) ≤ (t : Int) := by omega
          have hn7 : ¬ (t = t - 7) := by omega
          have hn16 : ¬ (t = t - 16) := by omega
          have hn7' : ¬ (t - 7 = t) := by omega
          have hn16' : ¬ (t - 16 = t) := by omega
          go_wp2
          go_region_held3 (fun w' => w'.cell? ⟨w.heap.size + 1 + 1 + 1, t - 7, none⟩ = some (.int .u32 (u x7)) ∧ w'.cell? ⟨w.heap.size + 1 + 1 + 1, t - 16, none⟩ = some (.int .u32 (u x16))) (first | go_keep | (exact ⟨(cellOff hn7').trans c7, (cellOff hn16').trans c16⟩))
            (first
              | (go_at_call_of 133 (u x2); refine (refTurn_any x2 _ _ ?_ ?_).mono ?_; (omega); (omega); rintro e1 w2 ⟨rfl, m, hw⟩; rw [hw]; clear hw)
              | (go_at_call_of 133 (u x15); refine (refTurn_any x15 _ _ ?_ ?_).mono ?_; (omega); (omega); rintro e1 w2 ⟨rfl, m, hw⟩; rw [hw]; clear hw))
          all_goals go_wp2
          all_goals
            go_roundw
            case rel =>
              rw [hp1, hp2, hp3]
              refine ⟨t + 1, by omega, by omega, by go_num, r0.other (by show w.heap.size ≠ w.heap.size + 1 + 1 + 1; omega) _, r2.other (by show w.heap.size + 1 + 1 ≠ w.heap.size + 1 + 1 + 1; omega) _, ?_, (below_drewN hbel _).setCell (p := ⟨w.heap.size + 1 + 1 + 1, t, none⟩) (by show w.heap.size ≤ w.heap.size + 1 + 1 + 1; omega) _⟩
              have := r3.set t (.int .u32 (u (ad (ad (ad (s1 x2) x7) (s0 x15)) x16)))
              rw [ws_set, hst.out] at this
              exact this
            case measure => simp [intOf]; omega
        · rw [show t - 16 = 48 by omega, schedR_all] at r3
          have hd : decide ((t : Int) < 64) = false := by simp; omega
          generalize wr = W2 at *
          have hl0 := r0.lt
          have hl3 := r3.lt
          go_wp2_with fail
          refine (refWords_any W2).mono ?_
          rintro e1 w1 ⟨rfl, hw⟩
          rw [hw]
          clear hw w1
          have q0 := (r0.alloc (.cells (ws KW) 80)).alloc (.cells (ws KW) 80)
          go_wp2_with (first
            | (with_reducible (show wpList _ _ _ (⟨_, Op.store 80 _ _, _, _, _, _⟩ :: _) _ _)
               refine store_new (w := W2.alloc (.cells (ws KW) 80)) rfl 80 _ _ rfl (W2.heap.size + 1) (ws KW) rfl rfl _ _ (by simp) 64 (by kernel_rfl) (by rfl) (by rw [ws_size, KW_length]) (ws_one _) ?_)
            | (with_reducible (show wpList _ _ _ (⟨_, Op.load 82 _, _, _, _, _⟩ :: _) _ _)
               refine load_row rfl 82 _ rfl w.heap.size rfl _ _ q0 8 76 Tryz.underlying82 (by kernel_rfl) (by rw [ws_size, HS.out]) ?_)
            | (with_reducible (show wpList _ _ _ (⟨_, Op.store 82 _ _, _, _, _, _⟩ :: _) _ _)
               refine store_new (w := (W2.alloc (.cells (ws KW) 80)).alloc (.cells (ws KW) 80)) rfl 82 _ _ rfl (W2.heap.size + 1 + 1) (ws s) rfl rfl _ _ (by simp) 8 (by kernel_rfl) (by rfl) (by rw [ws_size, HS.out]) (ws_one _) ?_))
          go_loopw [12] (fun i w3 => ∃ t : Nat, t ≤ 64 ∧ i = .int .i64 t ∧ Row w3 w.heap.size 82 (ws s) ∧ Row w3 (w.heap.size + 1 + 1) 82 (ws (List.replicate 8 0)) ∧ Row w3 (w.heap.size + 1 + 1 + 1) 80 (ws (sched b)) ∧ Row w3 (W2.heap.size + 1) 80 (ws KW) ∧ Row w3 (W2.heap.size + 1 + 1) 82 (ws (roundsTo s KW (sched b) t)) ∧ Below w.heap.size w w3)
            (fun i _ => 64 - (intOf i).toNat)
          case atStart => exact ⟨0, by omega, rfl, q0.alloc _, ((r2.alloc _).alloc _).alloc _, ((r3.alloc _).alloc _).alloc _, (Row.new1 _ _ _ _).alloc _, Row.new2 _ _ _ _ _, ((hbel.alloc hbel.size _).alloc (by have := hbel.size; simp; omega) _).alloc (by have := hbel.size; simp; omega) _⟩
          case round =>
            clear r0 r2 r3 hbel q0
            obtain ⟨t, ht, rfl, r0, r2, r3, r4, r5, hbel⟩ := hrel
            by_cases hlt : t < 64
            · obtain ⟨a, b', c, d, e, f, g, h, he⟩ := eight (roundsTo_length s KW (sched b) HS.out t)
              have HE : Hid (roundsTo s KW (sched b) (t + 1) = turnL [a, b', c, d, e, f, g, h] (ad (gw KW t) (gw (sched b) t))) := show roundsTo s KW (sched b) (t + 1) = _ by rw [roundsTo, he]
              rw [turn_ref] at HE
              rw [he] at r5
              have ck := r4.cellW (j := t) (by rw [KW_length]; exact hlt)
              have cw := r3.cellW (j := t) (by rw [sched_length]; exact hlt)
              generalize gw KW t = x at *
              generalize gw (sched b) t = y at *
              have c0 : wr.cell? ⟨W2.heap.size + 1 + 1, 0, none⟩ = some (.int .u32 (u a)) := r5.cellW (j := 0) (by simp)
              have c1 : wr.cell? ⟨W2.heap.size + 1 + 1, 1, none⟩ = some (.int .u32 (u b')) := r5.cellW (j := 1) (by simp)
              have c2 : wr.cell? ⟨W2.heap.size + 1 + 1, 2, none⟩ = some (.int .u32 (u c)) := r5.cellW (j := 2) (by simp)
              have c3 : wr.cell? ⟨W2.heap.size + 1 + 1, 3, none⟩ = some (.int .u32 (u d)) := r5.cellW (j := 3) (by simp)
              have c4 : wr.cell? ⟨W2.heap.size + 1 + 1, 4, none⟩ = some (.int .u32 (u e)) := r5.cellW (j := 4) (by simp)
              have c5 : wr.cell? ⟨W2.heap.size + 1 + 1, 5, none⟩ = some (.int .u32 (u f)) := r5.cellW (j := 5) (by simp)
              have c6 : wr.cell? ⟨W2.heap.size + 1 + 1, 6, none⟩ = some (.int .u32 (u g)) := r5.cellW (j := 6) (by simp)
              have c7 : wr.cell? ⟨W2.heap.size + 1 + 1, 7, none⟩ = some (.int .u32 (u h)) := r5.cellW (j := 7) (by simp)
              have f5 := fun j => r5.frozen j
              have ht0 : (0 : Int) ≤ (t : Int) ∧ (t : Int) < 64 := by omega
              clear he
              have hx1 := bx (rr e 6) (rr e 11)
              have hx2 : bits .xor .u32 (u (xr (rr e 6) (rr e 11))) (u (rr e 25)) = u (S1 e) := bx _ _
              have hx3 := bx (rr a 2) (rr a 13)
              have hx4 : bits .xor .u32 (u (xr (rr a 2) (rr a 13))) (u (rr a 22)) = u (S0 a) := bx _ _
              have hb1 := ba e f
              have hb2 := bnot e
              have hb3 := ba (nt e) g
              have hb4 : bits .xor .u32 (u (an e f)) (u (an (nt e) g)) = u (ch e f g) := bx _ _
              have hb5 := ba a b'
              have hb6 := ba a c
              have hb7 := bx (an a b') (an a c)
              have hb8 := ba b' c
              have hb9 : bits .xor .u32 (u (xr (an a b') (an a c))) (u (an b' c)) = u (maj a b' c) := bx _ _
              have hp1 := waddw h (S1 e)
              have hp2 := waddw (ad h (S1 e)) (ch e f g)
              have hp3 := waddw (ad (ad h (S1 e)) (ch e f g)) x
              have hp4 := waddw (ad (ad (ad h (S1 e)) (ch e f g)) x) y
              have hp5 : IntKind.u32.wrap (u (S0 a) + u (maj a b' c)) = u (T2 a b' c) := waddw _ _
              go_wp2
              go_quiet ((go_at_call 133; exact Calls.quiet_of (refTurn_any _ _ _ (by omega) (by omega))))
              obtain ⟨wq, hwq⟩ : ∃ wq, wq = wr.drewN nq := ⟨_, rfl⟩
              rw [← hwq]
              have d0 : wq.cell? ⟨W2.heap.size + 1 + 1, 0, none⟩ = some (.int .u32 (u a)) := by rw [hwq]; exact c0
              have d1 : wq.cell? ⟨W2.heap.size + 1 + 1, 1, none⟩ = some (.int .u32 (u b')) := by rw [hwq]; exact c1
              have d2 : wq.cell? ⟨W2.heap.size + 1 + 1, 2, none⟩ = some (.int .u32 (u c)) := by rw [hwq]; exact c2
              have d3 : wq.cell? ⟨W2.heap.size + 1 + 1, 3, none⟩ = some (.int .u32 (u d)) := by rw [hwq]; exact c3
              have d4 : wq.cell? ⟨W2.heap.size + 1 + 1, 4, none⟩ = some (.int .u32 (u e)) := by rw [hwq]; exact c4
              have d5 : wq.cell? ⟨W2.heap.size + 1 + 1, 5, none⟩ = some (.int .u32 (u f)) := by rw [hwq]; exact c5
              have d6 : wq.cell? ⟨W2.heap.size + 1 + 1, 6, none⟩ = some (.int .u32 (u g)) := by rw [hwq]; exact c6
              have d7 : wq.cell? ⟨W2.heap.size + 1 + 1, 7, none⟩ = some (.int .u32 (u h)) := by rw [hwq]; exact c7
              have g5 : ∀ j, wq.frozen? ⟨W2.heap.size + 1 + 1, j, none⟩ = false := fun j => by rw [hwq]; exact f5 j
              have R0 : Row wq w.heap.size 82 (ws s) := by rw [hwq]; exact r0
              have R2 : Row wq (w.heap.size + 1 + 1) 82 (ws (List.replicate 8 0)) := by rw [hwq]; exact r2
              have R3 : Row wq (w.heap.size + 1 + 1 + 1) 80 (ws (sched b)) := by rw [hwq]; exact r3
              have R4 : Row wq (W2.heap.size + 1) 80 (ws KW) := by rw [hwq]; exact r4
              have R5 : Row wq (W2.heap.size + 1 + 1) 82 (ws [a, b', c, d, e, f, g, h]) := by rw [hwq]; exact r5
              have RB : Below w.heap.size w wq := by rw [hwq]; exact below_drewN hbel nq
              clear hwq c0 c1 c2 c3 c4 c5 c6 c7 f5 ck cw r0 r2 r3 r4 r5 hbel
              go_wp2
              go_quiet ((go_at_call 133; exact Calls.quiet_of (refTurn_any _ _ _ (by omega) (by omega))))
              have hp6 := wadd (ad (ad (ad (ad h (S1 e)) (ch e f g)) x) y) (T2 a b' c)
              have hp7 := wadd d (ad (ad (ad (ad h (S1 e)) (ch e f g)) x) y)
              go_wp2
              go_roundw
              case rel =>
                refine ⟨t + 1, by omega, by go_num, put8_other R0 (by omega) _ _ _ _ _ _ _ _, put8_other R2 (by omega) _ _ _ _ _ _ _ _, put8_other R3 (by omega) _ _ _ _ _ _ _ _, put8_other R4 (by omega) _ _ _ _ _ _ _ _, ?_, put8_below (below_drewN RB _) (by omega) _ _ _ _ _ _ _ _⟩
                rw [HE.out]
                exact put8_row R5 (by rw [ws_size]; rfl) _ _ _ _ _ _ _ _
              case measure => simp [intOf]; omega
            · have hd3 : decide ((t : Int) < 64) = false := by simp; omega
              rw [show t = 64 by omega] at r5
              have hn : Hid ((roundsTo s KW (sched b) 64).length = 8) := roundsTo_length s KW (sched b) HS.out 64
              have HF : Hid (furtherL s KW b = sumS (roundsTo s KW (sched b) 64) s) := show furtherL s KW b = _ by unfold furtherL; exact sumS_comm _ _
              generalize roundsTo s KW (sched b) 64 = n at *
              clear r3 r4
              go_wp2
              go_loopw [17] (fun i w4 => ∃ t : Nat, t ≤ 8 ∧ i = .int .i64 t ∧ Row w4 w.heap.size 82 (ws s) ∧ Row w4 (w.heap.size + 1 + 1) 82 (ws (List.replicate 8 0)) ∧ Row w4 (W2.heap.size + 1 + 1) 82 (ws (mix (sumS n s) n t)) ∧ Below w.heap.size w w4)
                (fun i _ => 8 - (intOf i).toNat)
              case atStart => exact ⟨0, by omega, rfl, r0, r2, by rw [mix_zero]; exact r5, hbel⟩
              case round =>
                clear r0 r2 r5 hbel
                obtain ⟨i, hi, rfl, r0, r2, r5, hbel⟩ := hrel
                by_cases hlt : i < 8
                · have c5 := r5.cellW (j := i) (by rw [mix_length _ _ i 8 (sumS_length n s) hn.out hi]; exact hlt)
                  rw [gw_mix _ _ i 8 (sumS_length n s) hlt] at c5
                  have c0 := r0.cellW (j := i) (by rw [HS.out]; exact hlt)
                  have f5 := r5.frozen i
                  have hst : Hid ((mix (sumS n s) n i).set i (ad (gw n i) (gw s i)) = mix (sumS n s) n (i + 1)) := mix_set _ _ i 8 (sumS_length n s) hn.out hlt _ (sumS_get n s i hlt)
                  generalize gw s i = x at *
                  generalize gw n i = y at *
                  have hp := wadd y x
                  have hi0 : (0 : Int) ≤ (i : Int) ∧ (i : Int) < 8 := by omega
                  go_wp2
                  go_region
                  all_goals go_wp2
                  all_goals
                    go_roundw
                    case rel =>
                      refine ⟨i + 1, by omega, by go_num, r0.other (by show w.heap.size ≠ W2.heap.size + 1 + 1; omega) _, r2.other (by show w.heap.size + 1 + 1 ≠ W2.heap.size + 1 + 1; omega) _, ?_, (hbel.setCell (p := ⟨W2.heap.size + 1 + 1, i, none⟩) (by show w.heap.size ≤ W2.heap.size + 1 + 1; omega) _).drew⟩
                      have := r5.set i (.int .u32 (u (ad y x)))
                      rw [ws_set, hst.out] at this
                      exact this
                    case measure => simp [intOf]; omega
                · rw [show i = 8 by omega, mix_all _ _ 8 (sumS_length n s) hn.out, ← HF.out] at r5
                  go_wp2_with (first
                    | (with_reducible (show wpList _ _ _ (⟨_, Op.load 82 _, _, _, _, _⟩ :: _) _ _)
                       refine load_row rfl 82 _ rfl (W2.heap.size + 1 + 1) rfl _ _ r5 8 76 Tryz.underlying82 (by kernel_rfl) (by rw [ws_size, furtherL_length]) ?_)
                    | (with_reducible (show wpList _ _ _ (⟨_, Op.store 82 _ _, _, _, _, _⟩ :: _) _ _)
                       refine store_row rfl 82 _ _ rfl (w.heap.size + 1 + 1) (ws (furtherL s KW b)) rfl rfl _ _ r2 8 (by kernel_rfl) (by rw [ws_size, List.length_replicate]) (by rw [ws_size, furtherL_length]) (ws_one _) ?_))
                  refine bodyPost_ret (result_row rfl _ _ (w.heap.size + 1 + 1) _ _ (r2.put _) 8 76 rfl Tryz.underlying82 (by kernel_rfl) (by rw [ws_size, furtherL_length])) rfl ⟨rfl, bSetRow hbel (by omega) _⟩
end Go.Proofs.YtlicflmpakkccaaGreatDoor
