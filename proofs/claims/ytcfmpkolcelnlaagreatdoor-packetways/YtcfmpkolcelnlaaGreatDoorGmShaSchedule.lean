/-
  What sha.schedule answers.
-/
import Derived.Test.YtcfmpkolcelnlaaGreatDoorGm16
import Derived.Test.YtcfmpkolcelnlaaGreatDoorGm1
import Derived.Deep.QuietTactic
import Derived.BigQuiet
import Derived.BigRegion
namespace Go.Proofs.YtcfmpkolcelnlaaGreatDoor
open Go.RowKit
set_option maxRecDepth 20000 in
set_option maxHeartbeats 400000 in
theorem schedule_any (b : List By) (hb : b.length = 64) (w : World) :
    Calls Tryz.prog 229 #[.agg (bs b)] w fun e w' => e = .returned (.agg (ws (sched b))) ∧ Below w.heap.size w w' := by
  have HB : Hid (b.length = 64) := hb
  clear hb
  have R0 : Row (w.alloc (.cells (bs b) 216)) w.heap.size 216 (bs b) := Row.new _ _ _
  go_enter Tryz.func229, Tryz.ntmps229
  go_wp2_with (refine load_row rfl 216 _ rfl w.heap.size rfl _ _ ((R0.alloc _).alloc _) 64 5 Tryz.underlying216 (by kernel_rfl) (by rw [bs_size, HB.out]) ?_)
  go_loopw [12] (fun i wr => ∃ k : Nat, k ≤ 64 ∧ i = .int .i64 k ∧ Row wr (w.heap.size + 1) 286 (ws (List.replicate 64 0)) ∧ Row wr (w.heap.size + 1 + 1) 286 (ws (parts b k)) ∧ Below w.heap.size w wr)
    (fun i _ => 64 - (intOf i).toNat)
  case atStart =>
    refine ⟨0, by omega, rfl, ?_, ?_, ?_⟩
    · have := (Row.new (w.alloc (.cells (bs b) 216)) 286 (ws (List.replicate 64 0))).alloc (.cells (ws (List.replicate 64 0)) 286)
      rw [World.size_alloc] at this
      exact this
    · have := Row.new ((w.alloc (.cells (bs b) 216)).alloc (.cells (ws (List.replicate 64 0)) 286)) 286 (ws (List.replicate 64 0))
      simp only [World.size_alloc] at this
      rw [parts_zero]
      exact this
    · exact (((Below.refl _ w).alloc (Nat.le_refl _) _).alloc (by simp) _).alloc (by simp; omega) _
  case round =>
    clear R0
    obtain ⟨k, hk, rfl, r1, r2, hbel⟩ := hrel
    by_cases hlt : k < 64
    · have hg := bs_get b k (by rw [HB.out]; exact hlt)
      rw [v8_ex] at hg
      have hix := fun W => run_index (P := Tryz.prog) 216 5 64 _ (bs b) k _ Tryz.underlying216 Tryz.underlying5 rfl (by kernel_rfl) hlt hg W
      clear hg
      have hc0 := u_nn (ex (gb b k))
      have hc1 : u (ex (gb b k)) ≤ 255 := by rw [← v8_ex]; exact v8_le _
      have c2 := r2.cellW (j := k / 4) (by rw [parts_length]; omega)
      have f2 := r2.frozen (k / 4)
      have h8 := wsl (gw (parts b k) (k / 4)) 8
      have ho := bo (sl (gw (parts b k) (k / 4)) 8) (ex (gb b k))
      go_wp2
      go_roundw
      case rel =>
        rw [show (256 : Int) = 2 ^ 8 by decide, h8, ho]
        refine ⟨k + 1, by omega, by go_num, r1.other (by show w.heap.size + 1 ≠ w.heap.size + 1 + 1; omega) _, ?_, hbel.setCell (p := ⟨w.heap.size + 1 + 1, k / 4, none⟩) (by show w.heap.size ≤ w.heap.size + 1 + 1; omega) _⟩
        have := r2.set (k / 4) (.int .u32 (u (oo (sl (gw (parts b k) (k / 4)) 8) (ex (gb b k)))))
        rw [ws_set, parts_step b k HB.out hlt] at this
        exact this
      case measure => simp [intOf]; omega
    · have r3 := r2
      rw [show k = 64 by omega, ← schedR_zero] at r3
      have hd : decide ((k : Int) < 64) = false := by simp; omega
      clear r2
      go_wp2
      go_loopw [6] (fun i wr => ∃ t : Nat, 16 ≤ t ∧ t ≤ 64 ∧ i = .int .i64 t ∧ Row wr (w.heap.size + 1) 286 (ws (List.replicate 64 0)) ∧ Row wr (w.heap.size + 1 + 1) 286 (ws (schedR b (t - 16))) ∧ Below w.heap.size w wr)
        (fun i _ => 64 - (intOf i).toNat)
      case atStart => exact ⟨16, by omega, by omega, rfl, r1, r3, hbel⟩
      case round =>
        clear r1 r3 hbel
        obtain ⟨t, ht0, ht, rfl, r1, r2, hbel⟩ := hrel
        by_cases hlt : t < 64
        · have hlen : (schedR b (t - 16)).length = 64 := schedR_length b _ (by omega)
          have c2 := r2.cellW (j := t - 2) (by rw [hlen]; omega)
          have c15 := r2.cellW (j := t - 15) (by rw [hlen]; omega)
          have c7 := r2.cellW (j := t - 7) (by rw [hlen]; omega)
          have c16 := r2.cellW (j := t - 16) (by rw [hlen]; omega)
          obtain ⟨v, hv⟩ : ∃ v, wr.cell? ⟨w.heap.size + 1 + 1, t, none⟩ = some v := ⟨_, r2.cellW (by rw [hlen]; omega)⟩
          have f2 := r2.frozen t
          have hst : Hid ((schedR b (t - 16)).set t (ad (ad (ad (s1 (gw (schedR b (t - 16)) (t - 2))) (gw (schedR b (t - 16)) (t - 7))) (s0 (gw (schedR b (t - 16)) (t - 15)))) (gw (schedR b (t - 16)) (t - 16))) = schedR b (t + 1 - 16)) := by
            have := schedR_step b (t - 16) (by omega)
            rw [show 16 + (t - 16) = t by omega, show t - 16 + 1 = t + 1 - 16 by omega] at this
            exact this
          generalize gw (schedR b (t - 16)) (t - 2) = x2 at *
          generalize gw (schedR b (t - 16)) (t - 7) = x7 at *
          generalize gw (schedR b (t - 16)) (t - 15) = x15 at *
          generalize gw (schedR b (t - 16)) (t - 16) = x16 at *
          clear hlen
          have h10 : u x2 / 1024 = u (sr x2 10) := wsr x2 10
          have h3 : u x15 / 8 = u (sr x15 3) := wsr x15 3
          have hx1 := bx (rr x2 17) (rr x2 19)
          have hx2 : bits .xor .u32 (u (xr (rr x2 17) (rr x2 19))) (u (sr x2 10)) = u (s1 x2) := bx _ _
          have hx3 := bx (rr x15 7) (rr x15 18)
          have hx4 : bits .xor .u32 (u (xr (rr x15 7) (rr x15 18))) (u (sr x15 3)) = u (s0 x15) := bx _ _
          have hp1 := wadd (s1 x2) x7
          have hp2 := wadd (ad (s1 x2) x7) (s0 x15)
          have hp3 := wadd (ad (ad (s1 x2) x7) (s0 x15)) x16
          go_wp2
          go_quiet (fail)
          go_wp2_with fail
          refine (right_any x2 17 _ (by omega) (by omega)).mono ?_
          rintro e1 w1 ⟨rfl, hw⟩
          rw [hw]; clear hw
          go_wp2_with fail
          refine (right_any x2 19 _ (by omega) (by omega)).mono ?_
          rintro e1 w1 ⟨rfl, hw⟩
          rw [hw]; clear hw
          go_wp2_with fail
          refine (right_any x15 7 _ (by omega) (by omega)).mono ?_
          rintro e1 w1 ⟨rfl, hw⟩
          rw [hw]; clear hw
          go_wp2_with fail
          refine (right_any x15 18 _ (by omega) (by omega)).mono ?_
          rintro e1 w1 ⟨rfl, hw⟩
          rw [hw]; clear hw
          have hw7 : IntKind.i64.wrap ((t : Int) - 7) = (t : Int) - 7 := by rw [IntKind.wrap_i64]; omega
          have hw16 : IntKind.i64.wrap ((t : Int) - 16) = (t : Int) - 16 := by rw [IntKind.wrap_i64]; omega
          have hq7 : ((t : Int) - 7).toNat = t - 7 := by omega
          have hq16 : ((t : Int) - 16).toNat = t - 16 := by omega
          have hl7 : (0 : Int) ≤ (t : Int) - 7 ∧ (t : Int) - 7 < 64 := by omega
          have hl16 : (0 : Int) ≤ (t : Int) - 16 ∧ (t : Int) - 16 < 64 := by omega
          have hlt' : (0 : Int) ≤ (t : Int) ∧ (t : Int) < 64 := by omega
          go_wp2
          go_region
          all_goals go_wp2
          all_goals
            go_roundw
            case rel =>
              refine ⟨t + 1, by omega, by omega, by go_num, r1.other (by show w.heap.size + 1 ≠ w.heap.size + 1 + 1; omega) _, ?_, (below_drewN hbel _).setCell (p := ⟨w.heap.size + 1 + 1, t, none⟩) (by show w.heap.size ≤ w.heap.size + 1 + 1; omega) _⟩
              have := r2.set t (.int .u32 (u (ad (ad (ad (s1 x2) x7) (s0 x15)) x16)))
              rw [ws_set, hst.out] at this
              exact this
            case measure => simp [intOf]; omega
        · obtain rfl : t = 64 := by omega
          have r3 := r2
          rw [schedR_all] at r3
          clear r2
          go_wp2_with (first
            | (refine load_row rfl 286 _ rfl (w.heap.size + 1 + 1) rfl _ _ r3 64 122 Tryz.underlying286 (by kernel_rfl) (by rw [ws_size, sched_length]) ?_)
            | (refine store_row rfl 286 _ _ rfl (w.heap.size + 1) (ws (sched b)) rfl rfl _ _ r1 64 (by kernel_rfl) (by rw [ws_size, List.length_replicate]) (by rw [ws_size, sched_length]) (ws_one _) ?_))
          refine bodyPost_ret (result_row rfl _ _ (w.heap.size + 1) _ _ (r1.put _) 64 122 rfl Tryz.underlying286 (by kernel_rfl) (by rw [ws_size, sched_length])) rfl ⟨rfl, bSetRow hbel (by omega) _⟩
end Go.Proofs.YtcfmpkolcelnlaaGreatDoor
