/-
  What the document's Block answers.
-/
import Derived.Test.YtlicflmpakkccaaGreatDoorGv15
import Derived.Test.YtlicflmpakkccaaGreatDoorGvChaQuart
import Derived.Test.YtlicflmpakkccaaGreatDoorGvChaSt
namespace Go.Proofs.YtlicflmpakkccaaGreatDoor
open Go Go.RowKit

theorem refQ (k : Nat) (hk : k < 8) (a b c d : Int) (ha : a = (qi k 0 : Nat)) (hb : b = (qi k 1 : Nat)) (hc : c = (qi k 2 : Nat)) (hd : d = (qi k 3 : Nat)) (g : Nat) (t : TypeId) (s : List Wd) (hs : s.length = 16) (w : World) (hr : Row w g t (ws (twoTo s k))) :
    Calls Tryz.prog 118 #[.pointer (some ⟨g, 0, none⟩), .int .i64 a, .int .i64 b, .int .i64 c, .int .i64 d] w fun e w' => e = .returned (.tuple #[]) ∧ Row w' g t (ws (twoTo s (k + 1))) ∧ Below g w w' := by
  subst ha hb hc hd
  have h := fun j hj => qi_lt k hk j hj
  have hl : (twoTo s k).length = 16 := by rw [twoTo_length]; exact hs
  refine (refQuarter_any g (qi k 0) (qi k 1) (qi k 2) (qi k 3) t (twoTo s k) hl (h 0 (by omega)) (h 1 (by omega)) (h 2 (by omega)) (h 3 (by omega)) w hr).mono ?_
  rintro e w' ⟨rfl, h1, h2⟩
  refine ⟨rfl, ?_, h2 g (Nat.le_refl _)⟩
  rw [twoTo_succ, ← steps_quart _ hl k hk]
  exact h1

set_option maxRecDepth 20000 in
set_option maxHeartbeats 2000000 in
theorem chaRefBlock_any (key : List By) (count : Wd) (nonce : List By) (hk : key.length = 32) (hn : nonce.length = 12) (w : World) :
    Calls Tryz.prog 74 #[.agg (bs key), .int .u32 (u count), .agg (bs nonce)] w fun e w' => e = .returned (.agg (bs (blockL key count nonce))) ∧ Below w.heap.size w w' := by
  have HK : Hid (key.length = 32) := hk
  have HN : Hid (nonce.length = 12) := hn
  clear hk hn
  have q0 : Row (((w.alloc (.cells (bs key) 60)).alloc (.cells (bs nonce) 72)).alloc (.cells (bs (List.replicate 64 0)) 74)) w.heap.size 60 (bs key) := ((Row.new _ _ _).alloc _).alloc _
  have q1 : Row (((w.alloc (.cells (bs key) 60)).alloc (.cells (bs nonce) 72)).alloc (.cells (bs (List.replicate 64 0)) 74)) (w.heap.size + 1) 72 (bs nonce) := (Row.new1 _ _ _ _).alloc _
  have q2 : Row (((w.alloc (.cells (bs key) 60)).alloc (.cells (bs nonce) 72)).alloc (.cells (bs (List.replicate 64 0)) 74)) (w.heap.size + 1 + 1) 74 (bs (List.replicate 64 0)) := Row.new2 _ _ _ _ _
  have hb0 : Below w.heap.size w (((w.alloc (.cells (bs key) 60)).alloc (.cells (bs nonce) 72)).alloc (.cells (bs (List.replicate 64 0)) 74)) := (((Below.refl _ w).alloc (Nat.le_refl _) _).alloc (by simp) _).alloc (by simp; omega) _
  have HS : Hid ((stateL key count nonce).length = 16) := show _ = _ from stateL_length _ _ _
  go_enter Tryz.func74, Tryz.ntmps74
  go_wp2_with (first
    | (with_reducible (show wpList _ _ _ (⟨_, Op.load 60 _, _, _, _, _⟩ :: _) _ _)
       refine load_row rfl 60 _ rfl w.heap.size rfl _ _ q0 32 5 Tryz.underlying60 (by kernel_rfl) (by rw [bs_size, HK.out]) ?_)
    | (with_reducible (show wpList _ _ _ (⟨_, Op.load 72 _, _, _, _, _⟩ :: _) _ _)
       refine load_row rfl 72 _ rfl (w.heap.size + 1) rfl _ _ q1 12 5 Tryz.underlying72 (by kernel_rfl) (by rw [bs_size, HN.out]) ?_))
  refine (refState_any key count nonce HK.out HN.out _).mono ?_
  rintro e1 w1 ⟨rfl, hb1⟩
  have r2 := q2.below hb1 q2.lt
  have hbel : Below w.heap.size w w1 := hb0.trans (hb1.mono hb0.size)
  clear hb1 q0 q1 q2 hb0
  have HBL : Hid (blockL key count nonce = bytesL (sumL16 (roundsL (stateL key count nonce) 10) (stateL key count nonce))) := show _ = _ by rfl
  generalize stateL key count nonce = s at *
  obtain ⟨R, HRR, HBL2⟩ : ∃ R, Hid (∀ j, j = 10 → roundsL s j = R) ∧ Hid (blockL key count nonce = bytesL (sumL16 R s)) := ⟨roundsL s 10, (show ∀ j, j = 10 → roundsL s j = roundsL s 10 from fun j hj => by rw [hj]), HBL⟩
  clear HBL
  have hl2 := r2.lt
  go_wp2_with (first
    | (with_reducible (show wpList _ _ _ (⟨_, Op.alloc 169, _, _, _, _⟩ :: _) _ _)
       refine alloc_row rfl 169 rfl (ws (List.replicate 16 0)) (by kernel_rfl) ?_)
    | (with_reducible (show wpList _ _ _ (⟨_, Op.store 169 _ _, _, _, _, _⟩ :: _) _ _)
       refine store_new (w := w1) (by rfl) 169 _ _ (by rfl) w1.heap.size (ws s) (by rfl) (by rfl) 169 _ (by rfl) 16 (by kernel_rfl) (by rfl) (by rw [ws_size, HS.out]) (ws_one _) ?_)
    | (with_reducible (show wpList _ _ _ (⟨_, Op.load 169 _, _, _, _, _⟩ :: _) _ _)
       refine load_row rfl 169 _ rfl w1.heap.size rfl _ _ (Row.new _ _ _) 16 76 Tryz.underlying169 (by kernel_rfl) (by rw [ws_size, HS.out]) ?_)
    | (with_reducible (show wpList _ _ _ (⟨_, Op.store 169 _ _, _, _, _, _⟩ :: _) _ _)
       refine store_new (w := w1.alloc (.cells (ws s) 169)) (by rfl) 169 _ _ (by rfl) (w1.heap.size + 1) (ws s) (by rfl) (by rfl) 169 _ (by simp) 16 (by kernel_rfl) (by rfl) (by rw [ws_size, HS.out]) (ws_one _) ?_))
  go_loopw [9] (fun i wr => ∃ k : Nat, k ≤ 10 ∧ i = .int .i64 k ∧ Row wr (w.heap.size + 1 + 1) 74 (bs (List.replicate 64 0)) ∧ Row wr w1.heap.size 169 (ws s) ∧ Row wr (w1.heap.size + 1) 169 (ws (roundsL s k)) ∧ Below w.heap.size w wr)
    (fun i _ => 10 - (intOf i).toNat)
  case atStart => exact ⟨0, by omega, rfl, (r2.alloc _).alloc _, (Row.new _ _ _).alloc _, by rw [roundsL_zero]; exact Row.new1 _ _ _ _, (hbel.alloc hbel.size _).alloc (by have := hbel.size; simp; omega) _⟩
  case round =>
    clear r2 hbel
    obtain ⟨k, hk, rfl, r2, r7, r8, hbel⟩ := hrel
    by_cases hlt : k < 10
    · have HL : Hid ((roundsL s k).length = 16) := show _ = _ by rw [roundsL_length]; exact HS.out
      have HE : Hid (roundsL s (k + 1) = twoTo (roundsL s k) 8) := show _ = _ from roundsL_succ s k
      have HT0 : Hid (twoTo (roundsL s k) 0 = roundsL s k) := show _ = _ from twoTo_zero _
      rw [← HT0.out] at r8
      generalize roundsL s k = S at *
      clear HT0
      have hl7 := r7.lt
      have hsz := hbel.size
      go_wp2_with fail
      refine (refQ 0 (by omega) 0 4 8 12 rfl rfl rfl rfl (w1.heap.size + 1) 169 S HL.out wr r8).mono ?_
      rintro ez z0 ⟨rfl, h8, hz⟩
      replace r2 := r2.below hz (by omega)
      replace r7 := r7.below hz (by omega)
      replace hbel := hbel.trans (hz.mono (by omega))
      clear r8
      have r8 := h8
      clear h8 hz
      go_wp2_with fail
      refine (refQ 1 (by omega) 1 5 9 13 rfl rfl rfl rfl (w1.heap.size + 1) 169 S HL.out z0 r8).mono ?_
      rintro ez z1 ⟨rfl, h8, hz⟩
      replace r2 := r2.below hz (by omega)
      replace r7 := r7.below hz (by omega)
      replace hbel := hbel.trans (hz.mono (by omega))
      clear r8
      have r8 := h8
      clear h8 hz
      go_wp2_with fail
      refine (refQ 2 (by omega) 2 6 10 14 rfl rfl rfl rfl (w1.heap.size + 1) 169 S HL.out z1 r8).mono ?_
      rintro ez z2 ⟨rfl, h8, hz⟩
      replace r2 := r2.below hz (by omega)
      replace r7 := r7.below hz (by omega)
      replace hbel := hbel.trans (hz.mono (by omega))
      clear r8
      have r8 := h8
      clear h8 hz
      go_wp2_with fail
      refine (refQ 3 (by omega) 3 7 11 15 rfl rfl rfl rfl (w1.heap.size + 1) 169 S HL.out z2 r8).mono ?_
      rintro ez z3 ⟨rfl, h8, hz⟩
      replace r2 := r2.below hz (by omega)
      replace r7 := r7.below hz (by omega)
      replace hbel := hbel.trans (hz.mono (by omega))
      clear r8
      have r8 := h8
      clear h8 hz
      go_wp2_with fail
      refine (refQ 4 (by omega) 0 5 10 15 rfl rfl rfl rfl (w1.heap.size + 1) 169 S HL.out z3 r8).mono ?_
      rintro ez z4 ⟨rfl, h8, hz⟩
      replace r2 := r2.below hz (by omega)
      replace r7 := r7.below hz (by omega)
      replace hbel := hbel.trans (hz.mono (by omega))
      clear r8
      have r8 := h8
      clear h8 hz
      go_wp2_with fail
      refine (refQ 5 (by omega) 1 6 11 12 rfl rfl rfl rfl (w1.heap.size + 1) 169 S HL.out z4 r8).mono ?_
      rintro ez z5 ⟨rfl, h8, hz⟩
      replace r2 := r2.below hz (by omega)
      replace r7 := r7.below hz (by omega)
      replace hbel := hbel.trans (hz.mono (by omega))
      clear r8
      have r8 := h8
      clear h8 hz
      go_wp2_with fail
      refine (refQ 6 (by omega) 2 7 8 13 rfl rfl rfl rfl (w1.heap.size + 1) 169 S HL.out z5 r8).mono ?_
      rintro ez z6 ⟨rfl, h8, hz⟩
      replace r2 := r2.below hz (by omega)
      replace r7 := r7.below hz (by omega)
      replace hbel := hbel.trans (hz.mono (by omega))
      clear r8
      have r8 := h8
      clear h8 hz
      go_wp2_with fail
      refine (refQ 7 (by omega) 3 4 9 14 rfl rfl rfl rfl (w1.heap.size + 1) 169 S HL.out z6 r8).mono ?_
      rintro ez z7 ⟨rfl, h8, hz⟩
      replace r2 := r2.below hz (by omega)
      replace r7 := r7.below hz (by omega)
      replace hbel := hbel.trans (hz.mono (by omega))
      clear r8
      have r8 := h8
      clear h8 hz
      go_wp2_with fail
      go_roundw
      case rel => exact ⟨k + 1, by omega, by go_num, r2, r7, by rw [HE.out]; exact r8, hbel⟩
      case measure => simp [intOf]; omega
    · rw [HRR.out k (by omega)] at r8
      have hd : decide ((k : Int) < 10) = false := by simp; omega
      have HL : Hid (R.length = 16) := show _ = _ by rw [← HRR.out 10 rfl, roundsL_length]; exact HS.out
      clear HRR
      generalize R = S at *
      generalize wr = W1 at *
      have hl8 := r8.lt
      go_wp2
      go_loopw [11] (fun i wr => ∃ t : Nat, t ≤ 64 ∧ i = .int .i64 t ∧ Row wr (w.heap.size + 1 + 1) 74 (bs (List.replicate 64 0)) ∧ Row wr w1.heap.size 169 (ws s) ∧ Row wr (w1.heap.size + 1) 169 (ws S) ∧ Row wr W1.heap.size 74 (bs ((bytesL (sumL16 S s)).take t ++ List.replicate (64 - t) 0)) ∧ Below w.heap.size w wr)
        (fun i _ => 64 - (intOf i).toNat)
      case atStart => exact ⟨0, by omega, rfl, r2.alloc _, r7.alloc _, r8.alloc _, Row.new _ _ (bs (List.replicate 64 0)), hbel.alloc hbel.size _⟩
      case round =>
        clear r2 r7 r8 hbel
        obtain ⟨t, ht, rfl, r2, r7, r8, r9, hbel⟩ := hrel
        by_cases hlt : t < 64
        · obtain ⟨q, r, hr, rfl⟩ : ∃ q r, r < 4 ∧ t = 4 * q + r := ⟨t / 4, t % 4, by omega, by omega⟩
          have c7 := r7.cellW (j := q) (by rw [HS.out]; omega)
          have c8 := r8.cellW (j := q) (by rw [HL.out]; omega)
          have HSG : Hid (gw (sumL16 S s) q = ad (gw S q) (gw s q)) := show _ = _ from sumL16_gw S s q (by omega)
          have HG := fill_set (bytesL (sumL16 S s)) 0 (4 * q + r) 64 (bytesL_length _) hlt _ (bytesL_get (sumL16 S s) (4 * q + r) hlt)
          rw [show (4 * q + r) / 4 = q by omega, show (4 * q + r) % 4 = r by omega, HSG.out] at HG
          have HG' : Hid (((bytesL (sumL16 S s)).take (4 * q + r) ++ List.replicate (64 - (4 * q + r)) 0).set (4 * q + r) (loOf (ad (gw S q) (gw s q)) r) = (bytesL (sumL16 S s)).take (4 * q + r + 1) ++ List.replicate (64 - (4 * q + r + 1)) 0) := HG
          clear HG
          have ha := wadd (gw S q) (gw s q)
          have HEW : Hid (u (ad (gw S q) (gw s q)) / 2 ^ (8 * r) % 256 = v8 (loOf (ad (gw S q) (gw s q)) r)) := show _ = _ by rw [wsr]; exact v8_loOf _ _
          have hu0 := u_nn (ad (gw S q) (gw s q))
          have hu1 := u_le (ad (gw S q) (gw s q))
          generalize gw S q = X at *
          generalize gw s q = Y at *
          obtain ⟨v, hv⟩ : ∃ v, wr.cell? ⟨W1.heap.size, 4 * q + r, none⟩ = some v := ⟨_, r9.cellB (by simp [bytesL_length]; omega)⟩
          have f9 := r9.frozen (4 * q + r)
          have e1 : (4 * (q : Int) + (r : Int)) / 4 = (q : Int) := by omega
          have e2 : (4 * (q : Int) + (r : Int)) % 4 = (r : Int) := by omega
          have p1 : (0 : Int) ≤ (q : Int) ∧ (q : Int) < 16 := by omega
          have p2 : (0 : Int) ≤ 4 * (q : Int) + (r : Int) ∧ 4 * (q : Int) + (r : Int) < 64 := by omega
          go_wp2
          go_region
          all_goals go_wp2
          all_goals
            go_roundw
            case rel =>
              rw [HEW.out]
              refine ⟨4 * q + r + 1, by omega, by go_num, r2.other (by show w.heap.size + 1 + 1 ≠ W1.heap.size; omega) _, r7.other (by show w1.heap.size ≠ W1.heap.size; omega) _, r8.other (by show w1.heap.size + 1 ≠ W1.heap.size; omega) _, ?_, hbel.drew.setCell (p := ⟨W1.heap.size, 4 * q + r, none⟩) (by show w.heap.size ≤ W1.heap.size; omega) _⟩
              have := r9.set (4 * q + r) (.int .u8 (v8 (loOf (ad X Y) r)))
              rw [bs_set, HG'.out] at this
              exact this
            case measure => simp [intOf]; omega
        · have r10 : Row wr W1.heap.size 74 (bs (bytesL (sumL16 S s))) := by
            have := r9
            rw [show t = 64 by omega, List.take_of_length_le (by rw [bytesL_length]; omega)] at this
            simpa using this
          clear r9
          have hd2 : decide ((t : Int) < 64) = false := by simp; omega
          generalize wr = W2 at *
          go_wp2_with (first
            | (with_reducible (show wpList _ _ _ (⟨_, Op.load 74 _, _, _, _, _⟩ :: _) _ _)
               refine load_row rfl 74 _ rfl W1.heap.size rfl _ _ r10 64 5 Tryz.underlying74 (by kernel_rfl) (by rw [bs_size, bytesL_length]) ?_)
            | (with_reducible (show wpList _ _ _ (⟨_, Op.store 74 _ _, _, _, _, _⟩ :: _) _ _)
               refine store_row rfl 74 _ _ rfl (w.heap.size + 1 + 1) (bs (bytesL (sumL16 S s))) rfl rfl _ _ r2 64 (by kernel_rfl) (by rw [bs_size, List.length_replicate]) (by rw [bs_size, bytesL_length]) (bs_one _) ?_))
          refine bodyPost_ret (result_row rfl _ _ (w.heap.size + 1 + 1) _ _ (r2.put _) 64 5 rfl Tryz.underlying74 (by kernel_rfl) (by rw [bs_size, bytesL_length])) rfl ⟨?_, bSetRow hbel (by omega) _⟩
          rw [HBL2.out]
end Go.Proofs.YtlicflmpakkccaaGreatDoor
