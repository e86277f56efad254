/-
  What chacha.Block answers.
-/
import Derived.Test.YtlicflmpakkccaaGreatDoorGvChaTwo
import Derived.Test.YtlicflmpakkccaaGreatDoorGvChaByt
namespace Go.Proofs.YtlicflmpakkccaaGreatDoor
open Go Go.RowKit

set_option maxRecDepth 20000 in
set_option maxHeartbeats 1000000 in
theorem block_any (key : List By) (count : Wd) (nonce : List By) (hk : key.length = 32) (hn : nonce.length = 12) (w : World) (hg : Glob w) :
    Calls Tryz.prog 72 #[.agg (bs key), .int .u32 (u count), .agg (bs nonce)] w fun e w' => e = .returned (.agg (bs (blockL key count nonce))) ∧ Below w.heap.size w w' := by
  have HK : Hid (key.length = 32) := hk
  have HN : Hid (nonce.length = 12) := hn
  have HG : Hid (Glob w) := hg
  clear hk hn hg
  have q0 : Row (((w.alloc (.cells (bs key) 60)).alloc (.cells (bs nonce) 72)).alloc (.cells (bs (List.replicate 64 0)) 74)) w.heap.size 60 (bs key) := ((Row.new _ _ _).alloc _).alloc _
  have q1 : Row (((w.alloc (.cells (bs key) 60)).alloc (.cells (bs nonce) 72)).alloc (.cells (bs (List.replicate 64 0)) 74)) (w.heap.size + 1) 72 (bs nonce) := (Row.new1 _ _ _ _).alloc _
  have q2 : Row (((w.alloc (.cells (bs key) 60)).alloc (.cells (bs nonce) 72)).alloc (.cells (bs (List.replicate 64 0)) 74)) (w.heap.size + 1 + 1) 74 (bs (List.replicate 64 0)) := Row.new2 _ _ _ _ _
  have hb0 : Below w.heap.size w (((w.alloc (.cells (bs key) 60)).alloc (.cells (bs nonce) 72)).alloc (.cells (bs (List.replicate 64 0)) 74)) := (((Below.refl _ w).alloc (Nat.le_refl _) _).alloc (by simp) _).alloc (by simp; omega) _
  have HS : Hid ((stateL key count nonce).length = 16) := show _ = _ from stateL_length _ _ _
  go_enter Tryz.func72, Tryz.ntmps72
  go_wp2_with (first
    | (with_reducible (show wpList _ _ _ (⟨_, Op.load 60 _, _, _, _, _⟩ :: _) _ _)
       refine load_row rfl 60 _ rfl w.heap.size rfl _ _ q0 32 5 Tryz.underlying60 (by kernel_rfl) (by rw [bs_size, HK.out]) ?_)
    | (with_reducible (show wpList _ _ _ (⟨_, Op.load 72 _, _, _, _, _⟩ :: _) _ _)
       refine load_row rfl 72 _ rfl (w.heap.size + 1) rfl _ _ q1 12 5 Tryz.underlying72 (by kernel_rfl) (by rw [bs_size, HN.out]) ?_))
  refine (stateOf_any key count nonce HK.out HN.out _ (HG.out.below hb0 (Nat.le_refl _))).mono ?_
  rintro e1 w1 ⟨rfl, hb1⟩
  have r2 := q2.below hb1 q2.lt
  have hbel : Below w.heap.size w w1 := hb0.trans (hb1.mono hb0.size)
  clear hb1 q0 q1 q2 hb0
  have HBL : Hid (blockL key count nonce = bytesL (sumL16 (roundsL (stateL key count nonce) 10) (stateL key count nonce))) := show _ = _ by rfl
  generalize stateL key count nonce = s at *
  obtain ⟨R, HRR, HBL2⟩ : ∃ R, Hid (∀ j, j = 10 → roundsL s j = R) ∧ Hid (blockL key count nonce = bytesL (sumL16 R s)) := ⟨roundsL s 10, (show ∀ j, j = 10 → roundsL s j = roundsL s 10 from fun j hj => by rw [hj]), HBL⟩
  clear HBL
  have hl2 := r2.lt
  go_wp2_with (first
    | (with_reducible (show wpList _ _ _ (⟨_, Op.alloc 170, _, _, _, _⟩ :: _) _ _)
       refine alloc_row rfl 170 rfl (ws (List.replicate 16 0)) (by kernel_rfl) ?_)
    | (with_reducible (show wpList _ _ _ (⟨_, Op.store 170 _ _, _, _, _, _⟩ :: _) _ _)
       refine store_new (w := w1) (by rfl) 170 _ _ (by rfl) w1.heap.size (ws s) (by rfl) (by rfl) 170 _ (by rfl) 16 (by kernel_rfl) (by rfl) (by rw [ws_size, HS.out]) (ws_one _) ?_)
    | (with_reducible (show wpList _ _ _ (⟨_, Op.load 170 _, _, _, _, _⟩ :: _) _ _)
       refine load_row rfl 170 _ rfl w1.heap.size rfl _ _ (Row.new _ _ _) 16 76 Tryz.underlying170 (by kernel_rfl) (by rw [ws_size, HS.out]) ?_)
    | (with_reducible (show wpList _ _ _ (⟨_, Op.store 170 _ _, _, _, _, _⟩ :: _) _ _)
       refine store_new (w := w1.alloc (.cells (ws s) 170)) (by rfl) 170 _ _ (by rfl) (w1.heap.size + 1) (ws s) (by rfl) (by rfl) 170 _ (by simp) 16 (by kernel_rfl) (by rfl) (by rw [ws_size, HS.out]) (ws_one _) ?_))
  have HGL : Hid (∀ W, Below w.heap.size w W → Glob W) := show ∀ W, Below w.heap.size w W → Glob W from fun W h => HG.out.below h (Nat.le_refl _)
  go_loopw [15] (fun i wr => ∃ k : Nat, k ≤ 10 ∧ i = .int .i64 k ∧ Row wr (w.heap.size + 1 + 1) 74 (bs (List.replicate 64 0)) ∧ Row wr w1.heap.size 170 (ws s) ∧ Row wr (w1.heap.size + 1) 170 (ws (roundsL s k)) ∧ Below w.heap.size w wr)
    (fun i _ => 10 - (intOf i).toNat)
  case atStart => exact ⟨0, by omega, rfl, (r2.alloc _).alloc _, (Row.new _ _ _).alloc _, by rw [roundsL_zero]; exact Row.new1 _ _ _ _, (hbel.alloc hbel.size _).alloc (by have := hbel.size; simp; omega) _⟩
  case round =>
    clear r2 hbel
    obtain ⟨k, hk, rfl, r2, r7, r8, hbel⟩ := hrel
    by_cases hlt : k < 10
    · have HL : Hid ((roundsL s k).length = 16) := show _ = _ by rw [roundsL_length]; exact HS.out
      have HE : Hid (roundsL s (k + 1) = twoL (roundsL s k)) := show _ = _ from roundsL_succ s k
      have HL2 : Hid ((twoL (roundsL s k)).length = 16) := show _ = _ by rw [twoL, twoTo_length]; exact HL.out
      generalize roundsL s k = S at *
      go_wp2_with (first
        | (with_reducible (show wpList _ _ _ (⟨_, Op.load 170 _, _, _, _, _⟩ :: _) _ _)
           refine load_row rfl 170 _ rfl (w1.heap.size + 1) rfl _ _ r8 16 76 Tryz.underlying170 (by kernel_rfl) (by rw [ws_size, HL.out]) ?_))
      refine (twoRounds_any S HL.out wr (HGL.out wr hbel)).mono ?_
      rintro e2 w2 ⟨rfl, hb2⟩
      have s2 := r2.below hb2 r2.lt
      have s7 := r7.below hb2 r7.lt
      have s8 := r8.below hb2 r8.lt
      have sb2 := hbel.trans (hb2.mono hbel.size)
      clear hb2 r2 r7 r8 hbel
      generalize twoL S = T at *
      go_wp2_with (first
        | (with_reducible (show wpList _ _ _ (⟨_, Op.store 170 _ _, _, _, _, _⟩ :: _) _ _)
           refine store_row rfl 170 _ _ rfl (w1.heap.size + 1) (ws T) rfl rfl _ _ s8 16 (by kernel_rfl) (by rw [ws_size, HL.out]) (by rw [ws_size, HL2.out]) (ws_one _) ?_))
      go_roundw
      case rel => exact ⟨k + 1, by omega, by go_num, s2.putOther (by omega) _, s7.putOther (by omega) _, by rw [HE.out]; exact s8.put _, bSetRow sb2 (by omega) _⟩
      case measure => simp [intOf]; omega
    · rw [HRR.out k (by omega)] at r8
      have hd : decide ((k : Int) < 10) = false := by simp; omega
      have HL : Hid (R.length = 16) := show _ = _ by rw [← HRR.out 10 rfl, roundsL_length]; exact HS.out
      clear HRR
      generalize R = S at *
      generalize wr = W1 at *
      go_wp2
      go_loopw [20] (fun i wr => ∃ t : Nat, t ≤ 16 ∧ i = .int .i64 t ∧ Row wr (w.heap.size + 1 + 1) 74 (bs (List.replicate 64 0)) ∧ Row wr w1.heap.size 170 (ws s) ∧ Row wr (w1.heap.size + 1) 170 (ws (mixed (sumL16 S s) S t)) ∧ Below w.heap.size w wr)
        (fun i _ => 16 - (intOf i).toNat)
      case atStart => exact ⟨0, by omega, rfl, r2, r7, by rw [mixed_zero]; exact r8, hbel⟩
      case round =>
        clear r2 r7 r8 hbel
        obtain ⟨t, ht, rfl, r2, r7, r8, hbel⟩ := hrel
        by_cases hlt : t < 16
        · have HE := (show Hid _ from mixed_set (sumL16 S s) S t 16 (sumL16_length S s) HL.out hlt _ (sumL16_get S s t hlt))
          have c7 := r7.cellW (j := t) (by rw [HS.out]; omega)
          have c8 := r8.cellW (j := t) (by rw [mixed_length _ _ t 16 (sumL16_length S s) HL.out ht]; omega)
          rw [mixed_gw _ _ t 16 (sumL16_length S s) hlt] at c8
          have f8 := r8.frozen t
          have hp : (0 : Int) ≤ (t : Int) ∧ (t : Int) < 16 := by omega
          have ha := wadd (gw S t) (gw s t)
          generalize gw S t = X at *
          generalize gw s t = Y at *
          go_wp2
          go_region
          all_goals go_wp2
          all_goals
            go_roundw
            case rel =>
              refine ⟨t + 1, by omega, by go_num, r2.other (by show w.heap.size + 1 + 1 ≠ w1.heap.size + 1; omega) _, r7.other (by show w1.heap.size ≠ w1.heap.size + 1; omega) _, ?_, hbel.drew.setCell (p := ⟨w1.heap.size + 1, t, none⟩) (by show w.heap.size ≤ w1.heap.size + 1; omega) _⟩
              rw [← HE.out, ← ws_set]
              exact r8.set t _
            case measure => simp [intOf]; omega
        · rw [show t = 16 by omega, mixed_all _ _ 16 (sumL16_length S s) HL.out] at r8
          have hd2 : decide ((t : Int) < 16) = false := by simp; omega
          generalize wr = W2 at *
          go_wp2_with (first
            | (with_reducible (show wpList _ _ _ (⟨_, Op.load 170 _, _, _, _, _⟩ :: _) _ _)
               refine load_row rfl 170 _ rfl (w1.heap.size + 1) rfl _ _ r8 16 76 Tryz.underlying170 (by kernel_rfl) (by rw [ws_size, sumL16_length]) ?_))
          refine (chaBytesOf_any (sumL16 S s) (sumL16_length S s) W2).mono ?_
          rintro e3 w3 ⟨rfl, hb3⟩
          have t2 := r2.below hb3 r2.lt
          have tb := hbel.trans (hb3.mono hbel.size)
          clear hb3
          go_wp2_with (first
            | (with_reducible (show wpList _ _ _ (⟨_, Op.store 74 _ _, _, _, _, _⟩ :: _) _ _)
               refine store_row rfl 74 _ _ rfl (w.heap.size + 1 + 1) (bs (bytesL (sumL16 S s))) rfl rfl _ _ t2 64 (by kernel_rfl) (by rw [bs_size, List.length_replicate]) (by rw [bs_size, bytesL_length]) (bs_one _) ?_))
          refine bodyPost_ret (result_row rfl _ _ (w.heap.size + 1 + 1) _ _ (t2.put _) 64 5 rfl Tryz.underlying74 (by kernel_rfl) (by rw [bs_size, bytesL_length])) rfl ⟨?_, bSetRow tb (by omega) _⟩
          rw [HBL2.out]
end Go.Proofs.YtlicflmpakkccaaGreatDoor
