/-
  What sha.further answers.
-/
import Derived.Test.YtcfmpkolcelnlaaGreatDoorGm1
import Derived.Test.YtcfmpkolcelnlaaGreatDoorGm16
import Derived.Test.YtcfmpkolcelnlaaGreatDoorGmShaSchedule
import Derived.BigRegion
import Derived.Deep.RegionWith
import Derived.Deep.DrawnRows
namespace Go.Proofs.YtcfmpkolcelnlaaGreatDoor
open Go.RowKit
attribute [local go_sem ↓] Go.wp_at_zero Go.wp_at_succ

set_option maxRecDepth 20000 in
set_option maxHeartbeats 400000 in
theorem further_any (s k : List Wd) (b : List By) (hs : s.length = 8) (hk : k.length = 64) (hb : b.length = 64) (w : World) :
    Calls Tryz.prog 214 #[.agg (ws s), .agg (ws k), .agg (bs b)] w fun e w' => e = .returned (.agg (ws (furtherL s k b))) ∧ Below w.heap.size w w' := by
  have HS : Hid (s.length = 8) := hs
  have HK : Hid (k.length = 64) := hk
  have HB : Hid (b.length = 64) := hb
  clear hs hk hb
  have q2 : ∀ o, Row ((((w.alloc (.cells (ws s) 288)).alloc (.cells (ws k) 286)).alloc (.cells (bs b) 216)).alloc o) (w.heap.size + 1 + 1) 216 (bs b) := fun o => (Row.new2 _ _ _ _ _).alloc o
  go_enter Tryz.func214, Tryz.ntmps214
  go_wp2_with (refine load_row rfl 216 _ rfl (w.heap.size + 1 + 1) rfl _ _ (q2 _) 64 5 Tryz.underlying216 (by kernel_rfl) (by rw [bs_size, HB.out]) ?_)
  refine (schedule_any b HB.out _).mono ?_
  rintro e1 w1 ⟨rfl, hb1⟩
  have q0 : Row w1 w.heap.size 288 (ws s) := Row.below ((((Row.new _ _ _).alloc _).alloc _).alloc _) hb1 (by simp; omega)
  have q1 : Row w1 (w.heap.size + 1) 286 (ws k) := Row.below (((Row.new1 _ _ _ _).alloc _).alloc _) hb1 (by simp)
  have q3 : Row w1 (w.heap.size + 1 + 1 + 1) 288 (ws (List.replicate 8 0)) := Row.below (Row.new3 _ _ _ _ _ _) hb1 (by simp)
  have hbel1 : Below w.heap.size w w1 := (((((Below.refl _ w).alloc (Nat.le_refl _) _).alloc (by simp) _).alloc (by simp; omega) _).alloc (by simp; omega) _).trans (hb1.mono (by simp; omega))
  have hsz : w.heap.size + 4 ≤ w1.heap.size := by have := hb1.size; simp at this; omega
  clear hb1 q2
  have q0' := q0.alloc (.cells (ws (sched b)) 286)
  go_wp2_with (first
    | (with_reducible (show wpList _ _ _ (⟨_, Op.store 286 _ _, _, _, _, _⟩ :: _) _ _)
       refine store_new (w := w1) rfl 286 _ _ rfl w1.heap.size (ws (sched b)) rfl rfl _ _ rfl 64 (by kernel_rfl) (by rfl) (by rw [ws_size, sched_length]) (ws_one _) ?_)
    | (with_reducible (show wpList _ _ _ (⟨_, Op.load 288 _, _, _, _, _⟩ :: _) _ _)
       refine load_row rfl 288 _ rfl w.heap.size rfl _ _ q0' 8 122 Tryz.underlying288 (by kernel_rfl) (by rw [ws_size, HS.out]) ?_)
    | (with_reducible (show wpList _ _ _ (⟨_, Op.store 288 _ _, _, _, _, _⟩ :: _) _ _)
       refine store_new (w := w1.alloc (.cells (ws (sched b)) 286)) rfl 288 _ _ rfl (w1.heap.size + 1) (ws s) rfl rfl _ _ (by simp) 8 (by kernel_rfl) (by rfl) (by rw [ws_size, HS.out]) (ws_one _) ?_))
  go_loopw [14] (fun i wr => ∃ t : Nat, t ≤ 64 ∧ i = .int .i64 t ∧ Row wr w.heap.size 288 (ws s) ∧ Row wr (w.heap.size + 1) 286 (ws k) ∧ Row wr (w.heap.size + 1 + 1 + 1) 288 (ws (List.replicate 8 0)) ∧ Row wr w1.heap.size 286 (ws (sched b)) ∧ Row wr (w1.heap.size + 1) 288 (ws (roundsTo s k (sched b) t)) ∧ Below w.heap.size w wr)
    (fun i _ => 64 - (intOf i).toNat)
  case atStart => exact ⟨0, by omega, rfl, q0'.alloc _, (q1.alloc _).alloc _, (q3.alloc _).alloc _, (Row.new _ _ _).alloc _, Row.new1 _ _ _ _, (hbel1.alloc hbel1.size _).alloc (by have := hbel1.size; simp; omega) _⟩
  case round =>
    clear q0 q1 q3 q0' hbel1
    obtain ⟨t, ht, rfl, r0, r1, r3, r4, r5, hbel⟩ := hrel
    by_cases hlt : t < 64
    · obtain ⟨a, b', c, d, e, f, g, h, he⟩ := eight (roundsTo_length s k (sched b) HS.out t)
      have HE : Hid (roundsTo s k (sched b) (t + 1) = turnL [a, b', c, d, e, f, g, h] (ad (gw k t) (gw (sched b) t))) := show roundsTo s k (sched b) (t + 1) = _ by rw [roundsTo, he]
      rw [he] at r5
      have hg5 := r5.lt
      have ck := r1.cellW (j := t) (by rw [HK.out]; exact hlt)
      have cw := r4.cellW (j := t) (by rw [sched_length]; exact hlt)
      generalize gw k t = x at *
      generalize gw (sched b) t = y at *
      have c0 : wr.cell? ⟨w1.heap.size + 1, 0, none⟩ = some (.int .u32 (u a)) := r5.cellW (j := 0) (by simp)
      have c1 : wr.cell? ⟨w1.heap.size + 1, 1, none⟩ = some (.int .u32 (u b')) := r5.cellW (j := 1) (by simp)
      have c2 : wr.cell? ⟨w1.heap.size + 1, 2, none⟩ = some (.int .u32 (u c)) := r5.cellW (j := 2) (by simp)
      have c3 : wr.cell? ⟨w1.heap.size + 1, 3, none⟩ = some (.int .u32 (u d)) := r5.cellW (j := 3) (by simp)
      have c4 : wr.cell? ⟨w1.heap.size + 1, 4, none⟩ = some (.int .u32 (u e)) := r5.cellW (j := 4) (by simp)
      have c5 : wr.cell? ⟨w1.heap.size + 1, 5, none⟩ = some (.int .u32 (u f)) := r5.cellW (j := 5) (by simp)
      have c6 : wr.cell? ⟨w1.heap.size + 1, 6, none⟩ = some (.int .u32 (u g)) := r5.cellW (j := 6) (by simp)
      have c7 : wr.cell? ⟨w1.heap.size + 1, 7, none⟩ = some (.int .u32 (u h)) := r5.cellW (j := 7) (by simp)
      have f5 := fun j => r5.frozen j
      have hp := wadd x y
      have ht0 : (0 : Int) ≤ (t : Int) ∧ (t : Int) < 64 := by omega
      clear he
      go_wp2
      go_region_with (go_at_call 230; refine (turn_exp a b' c d e f g h (ad x y) _).mono ?_; rintro e1 w2 ⟨rfl, hb2⟩; obtain ⟨hc2, hf2⟩ := bcell hb2; have d0 := (hc2 (w1.heap.size + 1) 0 hg5).trans c0; have d1 := (hc2 (w1.heap.size + 1) 1 hg5).trans c1; have d2 := (hc2 (w1.heap.size + 1) 2 hg5).trans c2; have d3 := (hc2 (w1.heap.size + 1) 3 hg5).trans c3; have d4 := (hc2 (w1.heap.size + 1) 4 hg5).trans c4; have d5 := (hc2 (w1.heap.size + 1) 5 hg5).trans c5; have d6 := (hc2 (w1.heap.size + 1) 6 hg5).trans c6; have d7 := (hc2 (w1.heap.size + 1) 7 hg5).trans c7; have d8 := fun j => (hf2 (w1.heap.size + 1) j hg5).trans (f5 j); clear hc2 hf2)
      all_goals go_wp2
      all_goals
        go_roundw
        case rel =>
          have hb2' : Below w.heap.size w w2 := hbel.drew.trans (hb2.mono (by have := hbel.size; exact this))
          have s0 := r0.drew.below hb2 r0.lt
          have s1 := r1.drew.below hb2 r1.lt
          have s3 := r3.drew.below hb2 r3.lt
          have s4 := r4.drew.below hb2 r4.lt
          have s5 := r5.drew.below hb2 r5.lt
          refine ⟨t + 1, by omega, by go_num, put8_other s0 (by omega) _ _ _ _ _ _ _ _, put8_other s1 (by omega) _ _ _ _ _ _ _ _, put8_other s3 (by omega) _ _ _ _ _ _ _ _, put8_other s4 (by omega) _ _ _ _ _ _ _ _, ?_, put8_below hb2' (by omega) _ _ _ _ _ _ _ _⟩
          rw [HE.out]
          exact put8_row s5 (by rw [ws_size]; rfl) _ _ _ _ _ _ _ _
        case measure => simp [intOf]; omega
    · have hd : decide ((t : Int) < 64) = false := by simp; omega
      rw [show t = 64 by omega] at r5
      have hn : Hid ((roundsTo s k (sched b) 64).length = 8) := roundsTo_length s k (sched b) HS.out 64
      have HF : Hid (furtherL s k b = sumS s (roundsTo s k (sched b) 64)) := rfl
      generalize roundsTo s k (sched b) 64 = n at *
      clear r1 r4
      go_wp2
      go_loopw [27] (fun i wr => ∃ t : Nat, t ≤ 8 ∧ i = .int .i64 t ∧ Row wr w.heap.size 288 (ws (mix (sumS s n) s t)) ∧ Row wr (w.heap.size + 1 + 1 + 1) 288 (ws (List.replicate 8 0)) ∧ Row wr (w1.heap.size + 1) 288 (ws n) ∧ Below w.heap.size w wr)
        (fun i _ => 8 - (intOf i).toNat)
      case atStart => exact ⟨0, by omega, rfl, by rw [mix_zero]; exact r0, r3, r5, hbel⟩
      case round =>
        clear r0 r3 r5 hbel
        obtain ⟨i, hi, rfl, r0, r3, r5, hbel⟩ := hrel
        by_cases hlt : i < 8
        · have c0 := r0.cellW (j := i) (by rw [mix_length _ _ i 8 (sumS_length s n) HS.out hi]; exact hlt)
          rw [gw_mix _ _ i 8 (sumS_length s n) hlt] at c0
          have c5 := r5.cellW (j := i) (by rw [hn.out]; exact hlt)
          have f0 := r0.frozen i
          have hst : Hid ((mix (sumS s n) s i).set i (ad (gw s i) (gw n i)) = mix (sumS s n) s (i + 1)) := mix_set _ _ i 8 (sumS_length s n) HS.out hlt _ (sumS_get s n i hlt)
          generalize gw s i = x at *
          generalize gw n i = y at *
          have hp := wadd x y
          have hi0 : (0 : Int) ≤ (i : Int) ∧ (i : Int) < 8 := by omega
          go_wp2
          go_region
          all_goals go_wp2
          all_goals
            go_roundw
            case rel =>
              refine ⟨i + 1, by omega, by go_num, ?_, r3.other (by show w.heap.size + 1 + 1 + 1 ≠ w.heap.size; omega) _, r5.other (by show w1.heap.size + 1 ≠ w.heap.size; omega) _, hbel.drew.setCell (p := ⟨w.heap.size, i, none⟩) (Nat.le_refl _) _⟩
              have := r0.set i (.int .u32 (u (ad x y)))
              rw [ws_set, hst.out] at this
              exact this
            case measure => simp [intOf]; omega
        · rw [show i = 8 by omega, mix_all _ _ 8 (sumS_length s n) HS.out, ← HF.out] at r0
          go_wp2_with (first
            | (with_reducible (show wpList _ _ _ (⟨_, Op.load 288 _, _, _, _, _⟩ :: _) _ _)
               refine load_row rfl 288 _ rfl w.heap.size rfl _ _ r0 8 122 Tryz.underlying288 (by kernel_rfl) (by rw [ws_size, furtherL_length]) ?_)
            | (with_reducible (show wpList _ _ _ (⟨_, Op.store 288 _ _, _, _, _, _⟩ :: _) _ _)
               refine store_row rfl 288 _ _ rfl (w.heap.size + 1 + 1 + 1) (ws (furtherL s k b)) rfl rfl _ _ r3 8 (by kernel_rfl) (by rw [ws_size, List.length_replicate]) (by rw [ws_size, furtherL_length]) (ws_one _) ?_))
          refine bodyPost_ret (result_row rfl _ _ (w.heap.size + 1 + 1 + 1) _ _ (r3.put _) 8 122 rfl Tryz.underlying288 (by kernel_rfl) (by rw [ws_size, furtherL_length])) rfl ⟨rfl, bSetRow hbel (by omega) _⟩
end Go.Proofs.YtcfmpkolcelnlaaGreatDoor
