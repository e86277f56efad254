/-
  What sha.schedule answers.
-/
import Derived.Test.YtlicflmpakkccaaGreatDoorGv20
import Derived.Test.YtlicflmpakkccaaGreatDoorGv1
import Derived.Deep.QuietTactic
import Derived.BigQuiet
import Derived.BigRegion
import Derived.Deep.RegionWith
import Derived.Deep.DrawnRows
namespace Go.Proofs.YtlicflmpakkccaaGreatDoor
open Go.RowKit
set_option maxRecDepth 20000 in
set_option maxHeartbeats 400000 in
theorem schedule_any (b : List By) (hb : b.length = 64) (w : World) :
    Calls Tryz.prog 127 #[.agg (bs b)] w fun e w' => e = .returned (.agg (ws (sched b))) ∧ Below w.heap.size w w' := by
  have HB : Hid (b.length = 64) := hb
  clear hb
  have R0 : Row (w.alloc (.cells (bs b) 74)) w.heap.size 74 (bs b) := Row.new _ _ _
  go_enter Tryz.func127, Tryz.ntmps127
  go_wp2_with (refine load_row rfl 74 _ rfl w.heap.size rfl _ _ ((R0.alloc _).alloc _) 64 5 Tryz.underlying74 (by kernel_rfl) (by rw [bs_size, HB.out]) ?_)
  go_loopw [12] (fun i wr => ∃ k : Nat, k ≤ 64 ∧ i = .int .i64 k ∧ Row wr (w.heap.size + 1) 80 (ws (List.replicate 64 0)) ∧ Row wr (w.heap.size + 1 + 1) 80 (ws (parts b k)) ∧ Below w.heap.size w wr)
    (fun i _ => 64 - (intOf i).toNat)
  case atStart =>
    refine ⟨0, by omega, rfl, ?_, ?_, ?_⟩
    · have := (Row.new (w.alloc (.cells (bs b) 74)) 80 (ws (List.replicate 64 0))).alloc (.cells (ws (List.replicate 64 0)) 80)
      rw [World.size_alloc] at this
      exact this
    · have := Row.new ((w.alloc (.cells (bs b) 74)).alloc (.cells (ws (List.replicate 64 0)) 80)) 80 (ws (List.replicate 64 0))
      simp only [World.size_alloc] at this
      rw [parts_zero]
      exact this
    · exact (((Below.refl _ w).alloc (Nat.le_refl _) _).alloc (by simp) _).alloc (by simp; omega) _
  case round =>
    clear R0
    obtain ⟨k, hk, rfl, r1, r2, hbel⟩ := hrel
    by_cases hlt : k < 64
    · have hg := bs_get b k (by rw [HB.out]; exact hlt)
      rw [v8_ex] at hg
      have hix := fun W => run_index (P := Tryz.prog) 74 5 64 _ (bs b) k _ Tryz.underlying74 Tryz.underlying5 rfl (by kernel_rfl) hlt hg W
      clear hg
      have hc0 := u_nn (ex (gb b k))
      have hc1 : u (ex (gb b k)) ≤ 255 := by rw [← v8_ex]; exact v8_le _
      have c2 := r2.cellW (j := k / 4) (by rw [parts_length]; omega)
      have f2 := r2.frozen (k / 4)
      have h8 := wsl (gw (parts b k) (k / 4)) 8
      have ho := bo (sl (gw (parts b k) (k / 4)) 8) (ex (gb b k))
      go_wp2
      go_roundw
      case rel =>
        rw [show (256 : Int) = 2 ^ 8 by decide, h8, ho]
        refine ⟨k + 1, by omega, by go_num, r1.other (by show w.heap.size + 1 ≠ w.heap.size + 1 + 1; omega) _, ?_, hbel.setCell (p := ⟨w.heap.size + 1 + 1, k / 4, none⟩) (by show w.heap.size ≤ w.heap.size + 1 + 1; omega) _⟩
        have := r2.set (k / 4) (.int .u32 (u (oo (sl (gw (parts b k) (k / 4)) 8) (ex (gb b k)))))
        rw [ws_set, parts_step b k HB.out hlt] at this
        exact this
      case measure => simp [intOf]; omega
    · have r3 := r2
      rw [show k = 64 by omega, ← schedR_zero] at r3
      have hd : decide ((k : Int) < 64) = false := by simp; omega
      clear r2
      go_wp2
      go_loopw [6] (fun i wr => ∃ t : Nat, 16 ≤ t ∧ t ≤ 64 ∧ i = .int .i64 t ∧ Row wr (w.heap.size + 1) 80 (ws (List.replicate 64 0)) ∧ Row wr (w.heap.size + 1 + 1) 80 (ws (schedR b (t - 16))) ∧ Below w.heap.size w wr)
        (fun i _ => 64 - (intOf i).toNat)
      case atStart => exact ⟨16, by omega, by omega, rfl, r1, r3, hbel⟩
      case round =>
        clear r1 r3 hbel
        obtain ⟨t, ht0, ht, rfl, r1, r2, hbel⟩ := hrel
        by_cases hlt : t < 64
        · have hlen : (schedR b (t - 16)).length = 64 := schedR_length b _ (by omega)
          have c2 := r2.cellW (j := t - 2) (by rw [hlen]; omega)
          have c15 := r2.cellW (j := t - 15) (by rw [hlen]; omega)
          have c7 := r2.cellW (j := t - 7) (by rw [hlen]; omega)
          have c16 := r2.cellW (j := t - 16) (by rw [hlen]; omega)
          obtain ⟨v, hv⟩ : ∃ v, wr.cell? ⟨w.heap.size + 1 + 1, t, none⟩ = some v := ⟨_, r2.cellW (by rw [hlen]; omega)⟩
          have f2 := r2.frozen t
          have hst : Hid ((schedR b (t - 16)).set t (ad (ad (ad (s1 (gw (schedR b (t - 16)) (t - 2))) (gw (schedR b (t - 16)) (t - 7))) (s0 (gw (schedR b (t - 16)) (t - 15)))) (gw (schedR b (t - 16)) (t - 16))) = schedR b (t + 1 - 16)) := by
            have := schedR_step b (t - 16) (by omega)
            rw [show 16 + (t - 16) = t by omega, show t - 16 + 1 = t + 1 - 16 by omega] at this
            exact this
          generalize gw (schedR b (t - 16)) (t - 2) = x2 at *
          generalize gw (schedR b (t - 16)) (t - 7) = x7 at *
          generalize gw (schedR b (t - 16)) (t - 15) = x15 at *
          generalize gw (schedR b (t - 16)) (t - 16) = x16 at *
          clear hlen
          have h10 : u x2 / 1024 = u (sr x2 10) := wsr x2 10
          have h3 : u x15 / 8 = u (sr x15 3) := wsr x15 3
          have hx1 := bx (rr x2 17) (rr x2 19)
          have hx2 : bits .xor .u32 (u (xr (rr x2 17) (rr x2 19))) (u (sr x2 10)) = u (s1 x2) := bx _ _
          have hx3 := bx (rr x15 7) (rr x15 18)
          have hx4 : bits .xor .u32 (u (xr (rr x15 7) (rr x15 18))) (u (sr x15 3)) = u (s0 x15) := bx _ _
          have hp1 := wadd (s1 x2) x7
          have hp2 := wadd (ad (s1 x2) x7) (s0 x15)
          have hp3 := wadd (ad (ad (s1 x2) x7) (s0 x15)) x16
          go_wp2
          go_quiet (fail)
          go_wp2_with fail
          refine (right_any x2 17 _ (by omega) (by omega)).mono ?_
          rintro e1 w1 ⟨rfl, hw⟩
          rw [hw]; clear hw
          go_wp2_with fail
          refine (right_any x2 19 _ (by omega) (by omega)).mono ?_
          rintro e1 w1 ⟨rfl, hw⟩
          rw [hw]; clear hw
          go_wp2_with fail
          refine (right_any x15 7 _ (by omega) (by omega)).mono ?_
          rintro e1 w1 ⟨rfl, hw⟩
          rw [hw]; clear hw
          go_wp2_with fail
          refine (right_any x15 18 _ (by omega) (by omega)).mono ?_
          rintro e1 w1 ⟨rfl, hw⟩
          rw [hw]; clear hw
          have hw7 : IntKind.i64.wrap ((t : Int) - 7) = (t : Int) - 7 := by rw [IntKind.wrap_i64]; omega
          have hw16 : IntKind.i64.wrap ((t : Int) - 16) = (t : Int) - 16 := by rw [IntKind.wrap_i64]; omega
          have hq7 : ((t : Int) - 7).toNat = t - 7 := by omega
          have hq16 : ((t : Int) - 16).toNat = t - 16 := by omega
          have hl7 : (0 : Int) ≤ (t : Int) - 7 ∧ (t : Int) - 7 < 64 := by omega
          have hl16 : (0 : Int) ≤ (t : Int) - 16 ∧ (t : Int) - 16 < 64 := by omega
          have hlt' : (0 : Int) ≤ (t : Int) ∧ (t : Int) < 64 := by omega
          go_wp2
          go_region
          all_goals go_wp2
          all_goals
            go_roundw
            case rel =>
              refine ⟨t + 1, by omega, by omega, by go_num, r1.other (by show w.heap.size + 1 ≠ w.heap.size + 1 + 1; omega) _, ?_, (below_drewN hbel _).setCell (p := ⟨w.heap.size + 1 + 1, t, none⟩) (by show w.heap.size ≤ w.heap.size + 1 + 1; omega) _⟩
              have := r2.set t (.int .u32 (u (ad (ad (ad (s1 x2) x7) (s0 x15)) x16)))
              rw [ws_set, hst.out] at this
              exact this
            case measure => simp [intOf]; omega
        · obtain rfl : t = 64 := by omega
          have r3 := r2
          rw [schedR_all] at r3
          clear r2
          go_wp2_with (first
            | (refine load_row rfl 80 _ rfl (w.heap.size + 1 + 1) rfl _ _ r3 64 76 Tryz.underlying80 (by kernel_rfl) (by rw [ws_size, sched_length]) ?_)
            | (refine store_row rfl 80 _ _ rfl (w.heap.size + 1) (ws (sched b)) rfl rfl _ _ r1 64 (by kernel_rfl) (by rw [ws_size, List.length_replicate]) (by rw [ws_size, sched_length]) (ws_one _) ?_))
          refine bodyPost_ret (result_row rfl _ _ (w.heap.size + 1) _ _ (r1.put _) 64 76 rfl Tryz.underlying80 (by kernel_rfl) (by rw [ws_size, sched_length])) rfl ⟨rfl, bSetRow hbel (by omega) _⟩
end Go.Proofs.YtlicflmpakkccaaGreatDoor

/-! What sha.further answers. -/
namespace Go.Proofs.YtlicflmpakkccaaGreatDoor
open Go.RowKit
attribute [local go_sem ↓] Go.wp_at_zero Go.wp_at_succ

set_option maxRecDepth 20000 in
set_option maxHeartbeats 400000 in
theorem further_any (s k : List Wd) (b : List By) (hs : s.length = 8) (hk : k.length = 64) (hb : b.length = 64) (w : World) :
    Calls Tryz.prog 79 #[.agg (ws s), .agg (ws k), .agg (bs b)] w fun e w' => e = .returned (.agg (ws (furtherL s k b))) ∧ Below w.heap.size w w' := by
  have HS : Hid (s.length = 8) := hs
  have HK : Hid (k.length = 64) := hk
  have HB : Hid (b.length = 64) := hb
  clear hs hk hb
  have q2 : ∀ o, Row ((((w.alloc (.cells (ws s) 82)).alloc (.cells (ws k) 80)).alloc (.cells (bs b) 74)).alloc o) (w.heap.size + 1 + 1) 74 (bs b) := fun o => (Row.new2 _ _ _ _ _).alloc o
  go_enter Tryz.func79, Tryz.ntmps79
  go_wp2_with (refine load_row rfl 74 _ rfl (w.heap.size + 1 + 1) rfl _ _ (q2 _) 64 5 Tryz.underlying74 (by kernel_rfl) (by rw [bs_size, HB.out]) ?_)
  refine (schedule_any b HB.out _).mono ?_
  rintro e1 w1 ⟨rfl, hb1⟩
  have q0 : Row w1 w.heap.size 82 (ws s) := Row.below ((((Row.new _ _ _).alloc _).alloc _).alloc _) hb1 (by simp; omega)
  have q1 : Row w1 (w.heap.size + 1) 80 (ws k) := Row.below (((Row.new1 _ _ _ _).alloc _).alloc _) hb1 (by simp)
  have q3 : Row w1 (w.heap.size + 1 + 1 + 1) 82 (ws (List.replicate 8 0)) := Row.below (Row.new3 _ _ _ _ _ _) hb1 (by simp)
  have hbel1 : Below w.heap.size w w1 := (((((Below.refl _ w).alloc (Nat.le_refl _) _).alloc (by simp) _).alloc (by simp; omega) _).alloc (by simp; omega) _).trans (hb1.mono (by simp; omega))
  have hsz : w.heap.size + 4 ≤ w1.heap.size := by have := hb1.size; simp at this; omega
  clear hb1 q2
  have q0' := q0.alloc (.cells (ws (sched b)) 80)
  go_wp2_with (first
    | (with_reducible (show wpList _ _ _ (⟨_, Op.store 80 _ _, _, _, _, _⟩ :: _) _ _)
       refine store_new (w := w1) rfl 80 _ _ rfl w1.heap.size (ws (sched b)) rfl rfl _ _ rfl 64 (by kernel_rfl) (by rfl) (by rw [ws_size, sched_length]) (ws_one _) ?_)
    | (with_reducible (show wpList _ _ _ (⟨_, Op.load 82 _, _, _, _, _⟩ :: _) _ _)
       refine load_row rfl 82 _ rfl w.heap.size rfl _ _ q0' 8 76 Tryz.underlying82 (by kernel_rfl) (by rw [ws_size, HS.out]) ?_)
    | (with_reducible (show wpList _ _ _ (⟨_, Op.store 82 _ _, _, _, _, _⟩ :: _) _ _)
       refine store_new (w := w1.alloc (.cells (ws (sched b)) 80)) rfl 82 _ _ rfl (w1.heap.size + 1) (ws s) rfl rfl _ _ (by simp) 8 (by kernel_rfl) (by rfl) (by rw [ws_size, HS.out]) (ws_one _) ?_))
  go_loopw [14] (fun i wr => ∃ t : Nat, t ≤ 64 ∧ i = .int .i64 t ∧ Row wr w.heap.size 82 (ws s) ∧ Row wr (w.heap.size + 1) 80 (ws k) ∧ Row wr (w.heap.size + 1 + 1 + 1) 82 (ws (List.replicate 8 0)) ∧ Row wr w1.heap.size 80 (ws (sched b)) ∧ Row wr (w1.heap.size + 1) 82 (ws (roundsTo s k (sched b) t)) ∧ Below w.heap.size w wr)
    (fun i _ => 64 - (intOf i).toNat)
  case atStart => exact ⟨0, by omega, rfl, q0'.alloc _, (q1.alloc _).alloc _, (q3.alloc _).alloc _, (Row.new _ _ _).alloc _, Row.new1 _ _ _ _, (hbel1.alloc hbel1.size _).alloc (by have := hbel1.size; simp; omega) _⟩
  case round =>
    clear q0 q1 q3 q0' hbel1
    obtain ⟨t, ht, rfl, r0, r1, r3, r4, r5, hbel⟩ := hrel
    by_cases hlt : t < 64
    · obtain ⟨a, b', c, d, e, f, g, h, he⟩ := eight (roundsTo_length s k (sched b) HS.out t)
      have HE : Hid (roundsTo s k (sched b) (t + 1) = turnL [a, b', c, d, e, f, g, h] (ad (gw k t) (gw (sched b) t))) := show roundsTo s k (sched b) (t + 1) = _ by rw [roundsTo, he]
      rw [he] at r5
      have hg5 := r5.lt
      have ck := r1.cellW (j := t) (by rw [HK.out]; exact hlt)
      have cw := r4.cellW (j := t) (by rw [sched_length]; exact hlt)
      generalize gw k t = x at *
      generalize gw (sched b) t = y at *
      have c0 : wr.cell? ⟨w1.heap.size + 1, 0, none⟩ = some (.int .u32 (u a)) := r5.cellW (j := 0) (by simp)
      have c1 : wr.cell? ⟨w1.heap.size + 1, 1, none⟩ = some (.int .u32 (u b')) := r5.cellW (j := 1) (by simp)
      have c2 : wr.cell? ⟨w1.heap.size + 1, 2, none⟩ = some (.int .u32 (u c)) := r5.cellW (j := 2) (by simp)
      have c3 : wr.cell? ⟨w1.heap.size + 1, 3, none⟩ = some (.int .u32 (u d)) := r5.cellW (j := 3) (by simp)
      have c4 : wr.cell? ⟨w1.heap.size + 1, 4, none⟩ = some (.int .u32 (u e)) := r5.cellW (j := 4) (by simp)
      have c5 : wr.cell? ⟨w1.heap.size + 1, 5, none⟩ = some (.int .u32 (u f)) := r5.cellW (j := 5) (by simp)
      have c6 : wr.cell? ⟨w1.heap.size + 1, 6, none⟩ = some (.int .u32 (u g)) := r5.cellW (j := 6) (by simp)
      have c7 : wr.cell? ⟨w1.heap.size + 1, 7, none⟩ = some (.int .u32 (u h)) := r5.cellW (j := 7) (by simp)
      have f5 := fun j => r5.frozen j
      have hp := wadd x y
      have ht0 : (0 : Int) ≤ (t : Int) ∧ (t : Int) < 64 := by omega
      clear he
      go_wp2
      go_region_with (go_at_call 128; refine (turn_exp a b' c d e f g h (ad x y) _).mono ?_; rintro e1 w2 ⟨rfl, hb2⟩; obtain ⟨hc2, hf2⟩ := bcell hb2; have d0 := (hc2 (w1.heap.size + 1) 0 hg5).trans c0; have d1 := (hc2 (w1.heap.size + 1) 1 hg5).trans c1; have d2 := (hc2 (w1.heap.size + 1) 2 hg5).trans c2; have d3 := (hc2 (w1.heap.size + 1) 3 hg5).trans c3; have d4 := (hc2 (w1.heap.size + 1) 4 hg5).trans c4; have d5 := (hc2 (w1.heap.size + 1) 5 hg5).trans c5; have d6 := (hc2 (w1.heap.size + 1) 6 hg5).trans c6; have d7 := (hc2 (w1.heap.size + 1) 7 hg5).trans c7; have d8 := fun j => (hf2 (w1.heap.size + 1) j hg5).trans (f5 j); clear hc2 hf2)
      all_goals go_wp2
      all_goals
        go_roundw
        case rel =>
          have hb2' : Below w.heap.size w w2 := hbel.drew.trans (hb2.mono (by have := hbel.size; exact this))
          have s0 := r0.drew.below hb2 r0.lt
          have s1 := r1.drew.below hb2 r1.lt
          have s3 := r3.drew.below hb2 r3.lt
          have s4 := r4.drew.below hb2 r4.lt
          have s5 := r5.drew.below hb2 r5.lt
          refine ⟨t + 1, by omega, by go_num, put8_other s0 (by omega) _ _ _ _ _ _ _ _, put8_other s1 (by omega) _ _ _ _ _ _ _ _, put8_other s3 (by omega) _ _ _ _ _ _ _ _, put8_other s4 (by omega) _ _ _ _ _ _ _ _, ?_, put8_below hb2' (by omega) _ _ _ _ _ _ _ _⟩
          rw [HE.out]
          exact put8_row s5 (by rw [ws_size]; rfl) _ _ _ _ _ _ _ _
        case measure => simp [intOf]; omega
    · have hd : decide ((t : Int) < 64) = false := by simp; omega
      rw [show t = 64 by omega] at r5
      have hn : Hid ((roundsTo s k (sched b) 64).length = 8) := roundsTo_length s k (sched b) HS.out 64
      have HF : Hid (furtherL s k b = sumS s (roundsTo s k (sched b) 64)) := rfl
      generalize roundsTo s k (sched b) 64 = n at *
      clear r1 r4
      go_wp2
      go_loopw [27] (fun i wr => ∃ t : Nat, t ≤ 8 ∧ i = .int .i64 t ∧ Row wr w.heap.size 82 (ws (mix (sumS s n) s t)) ∧ Row wr (w.heap.size + 1 + 1 + 1) 82 (ws (List.replicate 8 0)) ∧ Row wr (w1.heap.size + 1) 82 (ws n) ∧ Below w.heap.size w wr)
        (fun i _ => 8 - (intOf i).toNat)
      case atStart => exact ⟨0, by omega, rfl, by rw [mix_zero]; exact r0, r3, r5, hbel⟩
      case round =>
        clear r0 r3 r5 hbel
        obtain ⟨i, hi, rfl, r0, r3, r5, hbel⟩ := hrel
        by_cases hlt : i < 8
        · have c0 := r0.cellW (j := i) (by rw [mix_length _ _ i 8 (sumS_length s n) HS.out hi]; exact hlt)
          rw [gw_mix _ _ i 8 (sumS_length s n) hlt] at c0
          have c5 := r5.cellW (j := i) (by rw [hn.out]; exact hlt)
          have f0 := r0.frozen i
          have hst : Hid ((mix (sumS s n) s i).set i (ad (gw s i) (gw n i)) = mix (sumS s n) s (i + 1)) := mix_set _ _ i 8 (sumS_length s n) HS.out hlt _ (sumS_get s n i hlt)
          generalize gw s i = x at *
          generalize gw n i = y at *
          have hp := wadd x y
          have hi0 : (0 : Int) ≤ (i : Int) ∧ (i : Int) < 8 := by omega
          go_wp2
          go_region
          all_goals go_wp2
          all_goals
            go_roundw
            case rel =>
              refine ⟨i + 1, by omega, by go_num, ?_, r3.other (by show w.heap.size + 1 + 1 + 1 ≠ w.heap.size; omega) _, r5.other (by show w1.heap.size + 1 ≠ w.heap.size; omega) _, hbel.drew.setCell (p := ⟨w.heap.size, i, none⟩) (Nat.le_refl _) _⟩
              have := r0.set i (.int .u32 (u (ad x y)))
              rw [ws_set, hst.out] at this
              exact this
            case measure => simp [intOf]; omega
        · rw [show i = 8 by omega, mix_all _ _ 8 (sumS_length s n) HS.out, ← HF.out] at r0
          go_wp2_with (first
            | (with_reducible (show wpList _ _ _ (⟨_, Op.load 82 _, _, _, _, _⟩ :: _) _ _)
               refine load_row rfl 82 _ rfl w.heap.size rfl _ _ r0 8 76 Tryz.underlying82 (by kernel_rfl) (by rw [ws_size, furtherL_length]) ?_)
            | (with_reducible (show wpList _ _ _ (⟨_, Op.store 82 _ _, _, _, _, _⟩ :: _) _ _)
               refine store_row rfl 82 _ _ rfl (w.heap.size + 1 + 1 + 1) (ws (furtherL s k b)) rfl rfl _ _ r3 8 (by kernel_rfl) (by rw [ws_size, List.length_replicate]) (by rw [ws_size, furtherL_length]) (ws_one _) ?_))
          refine bodyPost_ret (result_row rfl _ _ (w.heap.size + 1 + 1 + 1) _ _ (r3.put _) 8 76 rfl Tryz.underlying82 (by kernel_rfl) (by rw [ws_size, furtherL_length])) rfl ⟨rfl, bSetRow hbel (by omega) _⟩
end Go.Proofs.YtlicflmpakkccaaGreatDoor
