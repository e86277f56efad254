/-
  ShaUndone's walk.
-/
import Derived.Test.YtlhbeaoffmohlaaShaUndPlain
import Derived.Test.YtlhbeaoffmohlaaShaBack
import Derived.Test.YtlhbeaoffmohlaaShaBlock
import Derived.Test.YtlhbeaoffmohlaaShaAlive
import Derived.Deep.QuietTactic
import Derived.BigQuiet
import Derived.BigRegion
import Derived.Deep.RegionHeld3
import Derived.Deep.RegionWith
import Derived.Deep.DrawnRows
namespace Go.Proofs.Ytlhbeaoffmohlaa
open Go Go.RowKit

def z64 : List Wd := List.replicate 64 0
set_option maxRecDepth 20000 in
set_option maxHeartbeats 1000000 in
theorem undone_walk (s : List Wd) (b : List By) (hs : s.length = 8) (hb : b.length = 64) (w : World) :
    Calls Try.prog 6 #[.agg (ws s), .agg (bs b)] w fun e w' => e = .returned (.bool true) ∧ Below w.heap.size w w' := by
  have HS := veil hs
  have HB := veil hb
  clear hs hb
  have q0 : Row ((w.alloc (.cells (ws s) 31)).alloc (.cells (bs b) 32)) w.heap.size 31 (ws s) := (Row.new _ _ _).alloc _
  have q1 : Row ((w.alloc (.cells (ws s) 31)).alloc (.cells (bs b) 32)) (w.heap.size + 1) 32 (bs b) := Row.new1 _ _ _ _
  go_enter Try.func6, Try.ntmps6
  go_wp2_with (first
    | (with_reducible (show wpList _ _ _ (⟨_, Op.load 31 _, _, _, _, _⟩ :: _) _ _)
       refine load_row rfl 31 _ rfl w.heap.size rfl _ _ q0 8 30 Try.underlying31 (by kernel_rfl) (by rw [ws_size, HS.out]) ?_)
    | (with_reducible (show wpList _ _ _ (⟨_, Op.load 32 _, _, _, _, _⟩ :: _) _ _)
       refine load_row rfl 32 _ rfl (w.heap.size + 1) rfl _ _ q1 64 5 Try.underlying32 (by kernel_rfl) (by rw [bs_size, HB.out]) ?_))
  refine (block_any s b HS.out HB.out _).mono ?_
  rintro e1 w1 ⟨rfl, hb1⟩
  have r0 := q0.below hb1 (by simp; omega)
  have r1 := q1.below hb1 (by simp)
  have hbel : Below w.heap.size w w1 := (((Below.refl _ w).alloc (Nat.le_refl _) _).alloc (by simp) _).trans (hb1.mono (by simp; omega))
  have hl1 := r1.lt
  clear hb1 q0 q1
  have HF := veil (furtherL_length s KW b)
  go_wp2_with (first
    | (with_reducible (show wpList _ _ _ (⟨_, Op.store 31 _ _, _, _, _, _⟩ :: _) _ _)
       refine store_new (w := w1) (by rfl) 31 _ _ (by rfl) w1.heap.size (ws (furtherL s KW b)) (by rfl) (by rfl) 31 _ (by rfl) 8 (by kernel_rfl) (by rfl) (by rw [ws_size, HF.out]) (ws_one _) ?_))
  go_loopw [6] (fun i wr => ∃ t : Nat, t ≤ 8 ∧ i = .int .i64 t ∧ Row wr w.heap.size 31 (ws s) ∧ Row wr (w.heap.size + 1) 32 (bs b) ∧ Row wr w1.heap.size 31 (ws (mix (roundsTo s KW (sched b) 64) (furtherL s KW b) t)) ∧ Below w.heap.size w wr)
    (fun i _ => 8 - (intOf i).toNat)
  case atStart => exact ⟨0, by omega, rfl, r0.alloc _, r1.alloc _, by rw [mix_zero]; exact Row.new _ _ _, hbel.alloc hbel.size _⟩
  case round =>
    clear r0 r1 hbel
    obtain ⟨t, ht, rfl, r0, r1, r2, hbel⟩ := hrel
    have HR := veil (roundsTo_length s KW (sched b) HS.out 64)
    by_cases hlt : t < 8
    · have c0 := r0.cellW (j := t) (by rw [HS.out]; exact hlt)
      have c2 := r2.cellW (j := t) (by rw [mix_length _ _ t 8 HR.out HF.out ht]; exact hlt)
      rw [gw_mix _ _ t 8 HR.out hlt] at c2
      have f2 := r2.frozen t
      have hst := veil (mix_set _ _ t 8 HR.out HF.out hlt _ (further_less s KW b t hlt HS.out))
      generalize gw s t = x at *
      generalize gw (furtherL s KW b) t = y at *
      have hp := wsub y x
      have hi0 : (0 : Int) ≤ (t : Int) ∧ (t : Int) < 8 := by omega
      go_wp2
      go_region
      all_goals go_wp2
      all_goals
        go_roundw
        case rel =>
          refine ⟨t + 1, by omega, by go_num, r0.other (by show w.heap.size ≠ w1.heap.size; omega) _, r1.other (by show w.heap.size + 1 ≠ w1.heap.size; omega) _, ?_, hbel.drew.setCell (p := ⟨w1.heap.size, t, none⟩) (by show w.heap.size ≤ w1.heap.size; omega) _⟩
          have := r2.set t (.int .u32 (u (sb y x)))
          rw [ws_set, hst.out] at this
          exact this
        case measure => simp [intOf]; omega
    · rw [show t = 8 by omega, mix_all _ _ 8 HR.out HF.out] at r2
      have hd : decide ((t : Int) < 8) = false := by simp; omega
      generalize wr = W1 at *
      have hl2 := r2.lt
      go_wp2_with (with_reducible (show wpList _ _ _ (⟨_, Op.alloc 39, _, _, _, _⟩ :: _) _ _)
                   refine alloc_row rfl 39 rfl (ws z64) (by kernel_rfl) ?_)
      go_loopw [8] (fun i wr => ∃ t : Nat, t ≤ 64 ∧ i = .int .i64 t ∧ Row wr w.heap.size 31 (ws s) ∧ Row wr (w.heap.size + 1) 32 (bs b) ∧ Row wr w1.heap.size 31 (ws (roundsTo s KW (sched b) 64)) ∧ Row wr W1.heap.size 39 (ws (comeW b t)) ∧ Below w.heap.size w wr)
        (fun i _ => 64 - (intOf i).toNat)
      case atStart => exact ⟨0, by omega, rfl, r0.alloc _, r1.alloc _, r2.alloc _, Row.new _ _ _, hbel.alloc hbel.size _⟩
      case round =>
        clear r0 r1 r2 hbel hd ht hlt
        obtain ⟨t, ht, rfl, r0, r1, r2, r3, hbel⟩ := hrel
        by_cases hlt : t < 64
        · by_cases h16 : t < 16
          · have c0 := r1.cellB (j := 4 * t) (by rw [HB.out]; omega)
            have c1 := r1.cellB (j := 4 * t + 1) (by rw [HB.out]; omega)
            have c2 := r1.cellB (j := 4 * t + 2) (by rw [HB.out]; omega)
            have c3 := r1.cellB (j := 4 * t + 3) (by rw [HB.out]; omega)
            obtain ⟨v, hv⟩ : ∃ v, wr.cell? ⟨W1.heap.size, t, none⟩ = some v := ⟨_, r3.cellW (by rw [comeW_length b t ht]; exact hlt)⟩
            have f3 := r3.frozen t
            have HG := veil (comeW_set b t hlt _ (sched_low b HB.out t h16))
            have HWd : Hid (word4 b t = oo (oo (oo (sl (ex (gb b (4 * t))) 24) (sl (ex (gb b (4 * t + 1))) 16)) (sl (ex (gb b (4 * t + 2))) 8)) (ex (gb b (4 * t + 3)))) := rfl
            rw [v8_ex] at c0 c1 c2 c3
            generalize gb b (4 * t) = b0 at *
            generalize gb b (4 * t + 1) = b1 at *
            generalize gb b (4 * t + 2) = b2 at *
            generalize gb b (4 * t + 3) = b3 at *
            have u0 := u_nn (ex b0); have u1 := u_nn (ex b1); have u2 := u_nn (ex b2); have u3 := u_nn (ex b3)
            have l0 : u (ex b0) ≤ 255 := by rw [← v8_ex]; exact v8_le _
            have l1 : u (ex b1) ≤ 255 := by rw [← v8_ex]; exact v8_le _
            have l2 : u (ex b2) ≤ 255 := by rw [← v8_ex]; exact v8_le _
            have l3 : u (ex b3) ≤ 255 := by rw [← v8_ex]; exact v8_le _
            have hw0 : IntKind.i64.wrap (4 * (t : Int)) = 4 * (t : Int) := by rw [IntKind.wrap_i64]; omega
            have hw1 : IntKind.i64.wrap (4 * (t : Int) + 1) = 4 * (t : Int) + 1 := by rw [IntKind.wrap_i64]; omega
            have hw2 : IntKind.i64.wrap (4 * (t : Int) + 2) = 4 * (t : Int) + 2 := by rw [IntKind.wrap_i64]; omega
            have hw3 : IntKind.i64.wrap (4 * (t : Int) + 3) = 4 * (t : Int) + 3 := by rw [IntKind.wrap_i64]; omega
            have q0 : (4 * (t : Int)).toNat = 4 * t := by omega
            have q1 : (4 * (t : Int) + 1).toNat = 4 * t + 1 := by omega
            have q2 : (4 * (t : Int) + 2).toNat = 4 * t + 2 := by omega
            have q3 : (4 * (t : Int) + 3).toNat = 4 * t + 3 := by omega
            have p0 : (0 : Int) ≤ 4 * (t : Int) ∧ 4 * (t : Int) < 64 := by omega
            have p1 : (0 : Int) ≤ 4 * (t : Int) + 1 ∧ 4 * (t : Int) + 1 < 64 := by omega
            have p2 : (0 : Int) ≤ 4 * (t : Int) + 2 ∧ 4 * (t : Int) + 2 < 64 := by omega
            have p3 : (0 : Int) ≤ 4 * (t : Int) + 3 ∧ 4 * (t : Int) + 3 < 64 := by omega
            have p4 : (0 : Int) ≤ (t : Int) ∧ (t : Int) < 64 := by omega
            have HV : Hid (bits .or .u32 (bits .or .u32 (bits .or .u32 (u (ex b0) * 16777216) (u (ex b1) * 65536)) (u (ex b2) * 256)) (u (ex b3)) = u (word4 b t)) := show _ = _ by
              rw [shlS (ex b0) 24 16777216 (by decide) (by omega), shlS (ex b1) 16 65536 (by decide) (by omega), shlS (ex b2) 8 256 (by decide) (by omega), bo, bo, bo, HWd.out]
            go_wp2
            go_region
            all_goals go_wp2
            all_goals
              go_roundw
              case rel =>
                rw [HV.out]
                refine ⟨t + 1, by omega, by go_num, r0.other (by show w.heap.size ≠ W1.heap.size; omega) _, r1.other (by show w.heap.size + 1 ≠ W1.heap.size; omega) _, r2.other (by show w1.heap.size ≠ W1.heap.size; omega) _, ?_, (hbel.setCell (p := ⟨W1.heap.size, t, none⟩) (by show w.heap.size ≤ W1.heap.size; omega) _).drew⟩
                have := r3.set t (.int .u32 (u (word4 b t)))
                rw [ws_set, HG.out] at this
                exact this
              case measure => simp [intOf]; omega
          · have hlen := comeW_length b t ht
            have c2 := r3.cellW (j := t - 2) (by rw [hlen]; omega)
            have c15 := r3.cellW (j := t - 15) (by rw [hlen]; omega)
            have c7 := r3.cellW (j := t - 7) (by rw [hlen]; omega)
            have c16 := r3.cellW (j := t - 16) (by rw [hlen]; omega)
            rw [comeW_gw b t _ (by omega) ht] at c2 c15 c7 c16
            obtain ⟨v, hv⟩ : ∃ v, wr.cell? ⟨W1.heap.size, t, none⟩ = some v := ⟨_, r3.cellW (by rw [hlen]; omega)⟩
            have f3 := r3.frozen t
            have hst := veil (comeW_set b t hlt _ (sched_high b t (by omega) hlt))
            generalize gw (sched b) (t - 2) = x2 at *
            generalize gw (sched b) (t - 7) = x7 at *
            generalize gw (sched b) (t - 15) = x15 at *
            generalize gw (sched b) (t - 16) = x16 at *
            clear hlen
            have h10 : u x2 / 1024 = u (sr x2 10) := wsr x2 10
            have h3 : u x15 / 8 = u (sr x15 3) := wsr x15 3
            have hx1 := bx (rr x2 17) (rr x2 19)
            have hx2 : bits .xor .u32 (u (xr (rr x2 17) (rr x2 19))) (u (sr x2 10)) = u (s1 x2) := bx _ _
            have hx3 := bx (rr x15 7) (rr x15 18)
            have hx4 : bits .xor .u32 (u (xr (rr x15 7) (rr x15 18))) (u (sr x15 3)) = u (s0 x15) := bx _ _
            have hp1 := wadd (s1 x2) x7
            have hp2 := wadd (ad (s1 x2) x7) (s0 x15)
            have hp3 := wadd (ad (ad (s1 x2) x7) (s0 x15)) x16
            have hw7 : IntKind.i64.wrap ((t : Int) - 7) = (t : Int) - 7 := by rw [IntKind.wrap_i64]; omega
            have hw16 : IntKind.i64.wrap ((t : Int) - 16) = (t : Int) - 16 := by rw [IntKind.wrap_i64]; omega
            have hq7 : ((t : Int) - 7).toNat = t - 7 := by omega
            have hq16 : ((t : Int) - 16).toNat = t - 16 := by omega
            have hl7 : (0 : Int) ≤ (t : Int) - 7 ∧ (t : Int) - 7 < 64 := by omega
            have hl16 : (0 : Int) ≤ (t : Int) - 16 ∧ (t : Int) - 16 < 64 := by omega
            have hlt' : (0 : Int) ≤ (t : Int) ∧ (t : Int) < 64 := by omega
            have h7a : 7 ≤ t := by omega
            have h7b : (7 : Int) ≤ (t : Int) := by omega
            have h16b : (16 : Int) ≤ (t : Int) := by omega
            have h16d : decide ((t : Int) < 16) = false := by simp; omega
            have hn7 : ¬ (t = t - 7) := by omega
            have hn16 : ¬ (t = t - 16) := by omega
            have hn7' : ¬ (t - 7 = t) := by omega
            have hn16' : ¬ (t - 16 = t) := by omega
            go_wp2
            go_quiet (fail)
            obtain ⟨wq, hwq⟩ : ∃ wq, wq = wr.drewN nq := ⟨_, rfl⟩
            rw [← hwq]
            have d7 : wq.cell? ⟨W1.heap.size, t - 7, none⟩ = some (.int .u32 (u x7)) := by rw [hwq]; exact c7
            have d16 : wq.cell? ⟨W1.heap.size, t - 16, none⟩ = some (.int .u32 (u x16)) := by rw [hwq]; exact c16
            have dv : wq.cell? ⟨W1.heap.size, t, none⟩ = some v := by rw [hwq]; exact hv
            have df : wq.frozen? ⟨W1.heap.size, t, none⟩ = false := by rw [hwq]; exact f3
            have R0 : Row wq w.heap.size 31 (ws s) := by rw [hwq]; exact r0
            have R1 : Row wq (w.heap.size + 1) 32 (bs b) := by rw [hwq]; exact r1
            have R2 : Row wq w1.heap.size 31 (ws (roundsTo s KW (sched b) 64)) := by rw [hwq]; exact r2
            have R3 : Row wq W1.heap.size 39 (ws (comeW b t)) := by rw [hwq]; exact r3
            have RB : Below w.heap.size w wq := by rw [hwq]; exact below_drewN hbel nq
            clear hwq c2 c15 c7 c16 hv f3 r0 r1 r2 r3 hbel
            go_wp2
            go_region_held3 (fun w' => w'.cell? ⟨W1.heap.size, t - 7, none⟩ = some (.int .u32 (u x7)) ∧ w'.cell? ⟨W1.heap.size, t - 16, none⟩ = some (.int .u32 (u x16))) (first | go_keep | (exact ⟨(cellOff hn7').trans d7, (cellOff hn16').trans d16⟩))
              (first
                | (go_at_call_of 15 (u x2); refine (lawTurn_any x2 _ _ ?_ ?_).mono ?_; (omega); (omega); rintro e1 w2 ⟨rfl, m, hw⟩; rw [hw]; clear hw)
                | (go_at_call_of 15 (u x15); refine (lawTurn_any x15 _ _ ?_ ?_).mono ?_; (omega); (omega); rintro e1 w2 ⟨rfl, m, hw⟩; rw [hw]; clear hw))
            all_goals go_wp2
            all_goals
              go_roundw
              case rel =>
                rw [hp1, hp2, hp3]
                refine ⟨t + 1, by omega, by go_num, R0.other (by show w.heap.size ≠ W1.heap.size; omega) _, R1.other (by show w.heap.size + 1 ≠ W1.heap.size; omega) _, R2.other (by show w1.heap.size ≠ W1.heap.size; omega) _, ?_, (below_drewN RB _).setCell (p := ⟨W1.heap.size, t, none⟩) (by show w.heap.size ≤ W1.heap.size; omega) _⟩
                have := R3.set t (.int .u32 (u (ad (ad (ad (s1 x2) x7) (s0 x15)) x16)))
                rw [ws_set, hst.out] at this
                exact this
              case measure => simp [intOf]; omega
        · rw [show t = 64 by omega, comeW_all] at r3
          have hd : decide ((t : Int) < 64) = false := by simp; omega
          generalize wr = W2 at *
          have hl3 := r3.lt
          go_wp2_with fail
          refine (lawWords_any W2).mono ?_
          rintro e1 w2 ⟨rfl, hw⟩
          rw [hw]
          clear hw w2
          clear r1
          go_wp2_with (first
            | (with_reducible (show wpList _ _ _ (⟨_, Op.store 39 _ _, _, _, _, _⟩ :: _) _ _)
               refine store_new (w := W2.alloc (.cells (ws KW) 39)) rfl 39 _ _ rfl (W2.heap.size + 1) (ws KW) rfl rfl _ _ (by simp) 64 (by kernel_rfl) (by rfl) (by rw [ws_size, KW_length]) (ws_one _) ?_))
          go_loopw [12] (fun i w3 => ∃ i0 : Int, -1 ≤ i0 ∧ i0 ≤ 63 ∧ i = .int .i64 i0 ∧ Row w3 w.heap.size 31 (ws s) ∧ Row w3 w1.heap.size 31 (ws (roundsTo s KW (sched b) (i0 + 1).toNat)) ∧ Row w3 W1.heap.size 39 (ws (sched b)) ∧ Row w3 (W2.heap.size + 1) 39 (ws KW) ∧ Below w.heap.size w w3)
            (fun i _ => (intOf i + 1).toNat)
          case atStart => exact ⟨63, by omega, by omega, rfl, (r0.alloc _).alloc _, (r2.alloc _).alloc _, (r3.alloc _).alloc _, Row.new1 _ _ _ _, (hbel.alloc hbel.size _).alloc (by have := hbel.size; simp; omega) _⟩
          case round =>
            clear r0 r2 r3 hbel hd
            obtain ⟨i0, hlo, hhi, rfl, r0, r2, r3, r4, hbel⟩ := hrel
            by_cases hge : 0 ≤ i0
            · obtain ⟨t, rfl⟩ : ∃ t : Nat, i0 = (t : Int) := ⟨i0.toNat, by omega⟩
              have hlt : t < 64 := by omega
              rw [show ((t : Int) + 1).toNat = t + 1 by omega] at r2
              obtain ⟨a, b', c, d, e, f, g, h, he⟩ := eight (roundsTo_length s KW (sched b) HS.out (t + 1))
              have HE : Hid (roundsTo s KW (sched b) t = backL [a, b', c, d, e, f, g, h] (ad (gw KW t) (gw (sched b) t))) := show roundsTo s KW (sched b) t = _ by
                rw [← he, roundsTo, back_turn _ _ (roundsTo_length s KW (sched b) HS.out t)]
              rw [he] at r2
              have hg5 := r2.lt
              have ck := r4.cellW (j := t) (by rw [KW_length]; exact hlt)
              have cw := r3.cellW (j := t) (by rw [sched_length]; exact hlt)
              generalize gw KW t = x at *
              generalize gw (sched b) t = y at *
              have c0 : wr.cell? ⟨w1.heap.size, 0, none⟩ = some (.int .u32 (u a)) := r2.cellW (j := 0) (by simp)
              have c1 : wr.cell? ⟨w1.heap.size, 1, none⟩ = some (.int .u32 (u b')) := r2.cellW (j := 1) (by simp)
              have c2 : wr.cell? ⟨w1.heap.size, 2, none⟩ = some (.int .u32 (u c)) := r2.cellW (j := 2) (by simp)
              have c3 : wr.cell? ⟨w1.heap.size, 3, none⟩ = some (.int .u32 (u d)) := r2.cellW (j := 3) (by simp)
              have c4 : wr.cell? ⟨w1.heap.size, 4, none⟩ = some (.int .u32 (u e)) := r2.cellW (j := 4) (by simp)
              have c5 : wr.cell? ⟨w1.heap.size, 5, none⟩ = some (.int .u32 (u f)) := r2.cellW (j := 5) (by simp)
              have c6 : wr.cell? ⟨w1.heap.size, 6, none⟩ = some (.int .u32 (u g)) := r2.cellW (j := 6) (by simp)
              have c7 : wr.cell? ⟨w1.heap.size, 7, none⟩ = some (.int .u32 (u h)) := r2.cellW (j := 7) (by simp)
              have f5 := fun j => r2.frozen j
              have hp := wadd x y
              have ht0 : (0 : Int) ≤ (t : Int) ∧ (t : Int) < 64 := by omega
              clear he
              go_wp2
              go_region_with (go_at_call 17; refine (back_exp a b' c d e f g h (ad x y) _).mono ?_; rintro e1 w2 ⟨rfl, hb2⟩; obtain ⟨hc2, hf2⟩ := bcell hb2; have d0 := (hc2 w1.heap.size 0 hg5).trans c0; have d1 := (hc2 w1.heap.size 1 hg5).trans c1; have d2 := (hc2 w1.heap.size 2 hg5).trans c2; have d3 := (hc2 w1.heap.size 3 hg5).trans c3; have d4 := (hc2 w1.heap.size 4 hg5).trans c4; have d5 := (hc2 w1.heap.size 5 hg5).trans c5; have d6 := (hc2 w1.heap.size 6 hg5).trans c6; have d7 := (hc2 w1.heap.size 7 hg5).trans c7; have d8 := fun j => (hf2 w1.heap.size j hg5).trans (f5 j); clear hc2 hf2)
              all_goals go_wp2
              all_goals
                go_roundw
                case rel =>
                  have hb2' : Below w.heap.size w w2 := hbel.drew.trans (hb2.mono (by have := hbel.size; exact this))
                  have s0 := r0.drew.below hb2 r0.lt
                  have s2 := r2.drew.below hb2 r2.lt
                  have s3 := r3.drew.below hb2 r3.lt
                  have s4 := r4.drew.below hb2 r4.lt
                  refine ⟨(t : Int) - 1, by omega, by omega, by go_num, put8_other s0 (by omega) _ _ _ _ _ _ _ _, ?_, put8_other s3 (by omega) _ _ _ _ _ _ _ _, put8_other s4 (by omega) _ _ _ _ _ _ _ _, put8_below hb2' (by omega) _ _ _ _ _ _ _ _⟩
                  rw [show ((t : Int) - 1 + 1).toNat = t by omega, HE.out]
                  exact put8_row s2 (by rw [ws_size]; rfl) _ _ _ _ _ _ _ _
                case measure => first | (simp [intOf]; done) | (simp [intOf]; omega)
            · obtain rfl : i0 = -1 := by omega
              have r5 : Row wr w1.heap.size 31 (ws s) := r2
              clear r2 r3 r4
              generalize wr = W3 at *
              go_wp2_with fail
              refine (alive_any W3).mono ?_
              rintro e4 w4 ⟨rfl, hb4⟩
              have k0 := r0.below hb4 r0.lt
              have k5 := r5.below hb4 r5.lt
              have kb := hbel.trans (hb4.mono hbel.size)
              clear r0 r5 hbel hb4
              go_wp2_with (first
                | (with_reducible (show wpList _ _ _ (⟨_, Op.load 31 (.tmp 5), _, _, _, _⟩ :: _) _ _)
                   refine load_rowG (by rfl) 31 _ rfl w1.heap.size rfl _ _ k5 8 30 Try.underlying31 (by kernel_rfl) (by rw [ws_size, HS.out]) ?_)
                | (with_reducible (show wpList _ _ _ (⟨_, Op.load 31 (.tmp 2), _, _, _, _⟩ :: _) _ _)
                   refine load_rowG (by rfl) 31 _ rfl w.heap.size rfl _ _ k0 8 30 Try.underlying31 (by kernel_rfl) (by rw [ws_size, HS.out]) ?_)
                | (with_reducible (show wpList _ _ _ (⟨_, Op.binOp .eql 31 _ _ _, _, _, _, _⟩ :: _) _ _)
                   refine value_G (by rfl) (.bool true) (exec_eql_self w4 31 30 8 .u32 (.tmp 119) (.tmp 120) 31 (ws s) rfl rfl rfl Try.underlying31 Try.underlying30 (by kernel_rfl) (by kernel_rfl) (by kernel_rfl) (fun j hj => ⟨_, ws_get s j (by rw [HS.out]; exact hj)⟩)) ?_))
              go_ret
              exact ⟨rfl, kb⟩
end Go.Proofs.Ytlhbeaoffmohlaa
