/-
  Out of ChaRefState, ChaLeft.
-/
import Derived.Test.YtlicflmpakkccaaGreatDoorGvChaByt
import Derived.Test.YtlicflmpakkccaaGreatDoorRows
import Derived.Test.YtlicflmpakkccaaGreatDoorGv3
import Derived.Deep.QuietTactic
import Derived.BigQuiet

/-! What the document's State answers. -/
namespace Go.Proofs.YtlicflmpakkccaaGreatDoor
open Go Go.RowKit

set_option maxRecDepth 20000 in
set_option maxHeartbeats 400000 in
theorem refWord_any (g o : Nat) (cap : Nat) (t : TypeId) (b : List By) (q : Nat) (ho : o = 4 * q) (hq : 4 * q + 4 ≤ b.length) (w : World) (hr : Row w g t (bs b)) :
    Calls Tryz.prog 139 #[.slice (some ⟨g, o, none⟩) 4 cap] w fun e w' => e = .returned (.int .u32 (u (wordLE b q))) ∧ ∃ m, w' = w.drewN m := by
  have c0 := hr.cellB (j := 4 * q) (by omega)
  have c1 := hr.cellB (j := 4 * q + 1) (by omega)
  have c2 := hr.cellB (j := 4 * q + 2) (by omega)
  have c3 := hr.cellB (j := 4 * q + 3) (by omega)
  subst ho
  have HWd : Hid (wordLE b q = oo (oo (oo (ex (gb b (4 * q))) (sl (ex (gb b (4 * q + 1))) 8)) (sl (ex (gb b (4 * q + 2))) 16)) (sl (ex (gb b (4 * q + 3))) 24)) := show _ = _ by rfl
  rw [v8_ex] at c0 c1 c2 c3
  generalize gb b (4 * q) = b0 at *
  generalize gb b (4 * q + 1) = b1 at *
  generalize gb b (4 * q + 2) = b2 at *
  generalize gb b (4 * q + 3) = b3 at *
  have u0 := u_nn (ex b0); have u1 := u_nn (ex b1); have u2 := u_nn (ex b2); have u3 := u_nn (ex b3)
  have l0 : u (ex b0) ≤ 255 := by rw [← v8_ex]; exact v8_le _
  have l1 : u (ex b1) ≤ 255 := by rw [← v8_ex]; exact v8_le _
  have l2 : u (ex b2) ≤ 255 := by rw [← v8_ex]; exact v8_le _
  have l3 : u (ex b3) ≤ 255 := by rw [← v8_ex]; exact v8_le _
  have HV : Hid (bits .or .u32 (bits .or .u32 (bits .or .u32 (u (ex b0)) (u (ex b1) * 256)) (u (ex b2) * 65536)) (u (ex b3) * 16777216) = u (wordLE b q)) := show _ = _ by
    rw [shlS (ex b1) 8 256 (by decide) (by omega), shlS (ex b2) 16 65536 (by decide) (by omega), shlS (ex b3) 24 16777216 (by decide) (by omega), bo, bo, bo, HWd.out]
  clear hr hq
  go_enter Tryz.func139, Tryz.ntmps139
  go_wp2
  go_quiet (fail)
  go_wp2
  go_ret
  exact ⟨by rw [← HV.out]; rfl, _, rfl⟩

/-- The first four words, and nothing yet behind them. -/
theorem beg_row (key : List By) (count : Wd) (nonce : List By) : ws (st0 key count nonce 4) = #[.int .u32 1634760805, .int .u32 857760878, .int .u32 2036477234, .int .u32 1797285236, .int .u32 0, .int .u32 0, .int .u32 0, .int .u32 0, .int .u32 0, .int .u32 0, .int .u32 0, .int .u32 0, .int .u32 0, .int .u32 0, .int .u32 0, .int .u32 0] := by rfl

set_option maxRecDepth 20000 in
set_option maxHeartbeats 1000000 in
theorem refState_any (key : List By) (count : Wd) (nonce : List By) (hk : key.length = 32) (hn : nonce.length = 12) (w : World) :
    Calls Tryz.prog 117 #[.agg (bs key), .int .u32 (u count), .agg (bs nonce)] w fun e w' => e = .returned (.agg (ws (stateL key count nonce))) ∧ Below w.heap.size w w' := by
  have HK : Hid (key.length = 32) := hk
  have HN : Hid (nonce.length = 12) := hn
  clear hk hn
  go_enter Tryz.func117, Tryz.ntmps117
  go_wp2
  go_loopw [8] (fun i wr => ∃ t : Nat, t ≤ 8 ∧ i = .int .i64 t ∧ Row wr w.heap.size 60 (bs key) ∧ Row wr (w.heap.size + 1) 72 (bs nonce) ∧ Row wr (w.heap.size + 1 + 1) 169 (ws (List.replicate 16 0)) ∧ Row wr (w.heap.size + 1 + 1 + 1) 169 (ws (st0 key count nonce (4 + t))) ∧ Below w.heap.size w wr)
    (fun i _ => 8 - (intOf i).toNat)
  case atStart => exact ⟨0, by omega, rfl, (((Row.new _ _ _).alloc _).alloc _).alloc _, ((Row.new1 _ _ _ _).alloc _).alloc _, (Row.new2 _ _ _ _ (ws (List.replicate 16 0))).alloc _, by rw [Nat.add_zero, beg_row]; exact Row.new3 _ _ _ _ _ _, ((((Below.refl _ w).alloc (Nat.le_refl _) _).alloc (by simp) _).alloc (by simp; omega) _).alloc (by simp; omega) _⟩
  case round =>
    obtain ⟨t, ht, rfl, r0, r1, r2, r3, hbel⟩ := hrel
    by_cases hlt : t < 8
    · have HE := (show Hid _ from st0_set key count nonce (4 + t) (by omega) _ (stateL_key key count nonce t hlt))
      obtain ⟨v, hv⟩ : ∃ v, wr.cell? ⟨w.heap.size + 1 + 1 + 1, 4 + t, none⟩ = some v := ⟨_, r3.cellW (by rw [st0_length _ _ _ _ (by omega)]; omega)⟩
      have f3 := r3.frozen (4 + t)
      have hp : (0 : Int) ≤ 4 + (t : Int) ∧ 4 + (t : Int) < 16 := by omega
      have hw0 : IntKind.i64.wrap (4 + (t : Int)) = 4 + (t : Int) := by rw [IntKind.wrap_i64]; omega
      have hw1 : IntKind.i64.wrap (4 * (t : Int)) = 4 * (t : Int) := by rw [IntKind.wrap_i64]; omega
      have hw2 : IntKind.i64.wrap (4 * (t : Int) + 4) = 4 * (t : Int) + 4 := by rw [IntKind.wrap_i64]; omega
      have q0 : (4 + (t : Int)).toNat = 4 + t := by omega
      have q1 : (4 * (t : Int)).toNat = 4 * t := by omega
      have q2 : (4 * (t : Int) + 4).toNat = 4 * t + 4 := by omega
      have p2 : (0 : Int) ≤ 4 * (t : Int) ∧ 4 * (t : Int) ≤ 4 * (t : Int) + 4 ∧ 4 * (t : Int) + 4 ≤ 32 := by omega
      go_wp2_with fail
      refine (refWord_any w.heap.size (4 * t) (32 - 4 * t) 60 key t rfl (by rw [HK.out]; omega) _ r0).mono ?_
      rintro e1 w1 ⟨rfl, m, hw1⟩
      rw [hw1]
      clear hw1 w1
      generalize wordLE key t = X at *
      go_wp2
      go_roundw
      case rel =>
        refine ⟨t + 1, by omega, by go_num, (show Row (wr.drewN m) _ _ _ from r0).other (by show w.heap.size ≠ w.heap.size + 1 + 1 + 1; omega) _, (show Row (wr.drewN m) _ _ _ from r1).other (by show w.heap.size + 1 ≠ w.heap.size + 1 + 1 + 1; omega) _, (show Row (wr.drewN m) _ _ _ from r2).other (by show w.heap.size + 1 + 1 ≠ w.heap.size + 1 + 1 + 1; omega) _, ?_, (below_drewN hbel m).setCell (p := ⟨w.heap.size + 1 + 1 + 1, 4 + t, none⟩) (by show w.heap.size ≤ w.heap.size + 1 + 1 + 1; omega) _⟩
        rw [← Nat.add_assoc, ← HE.out, ← ws_set]
        exact (show Row (wr.drewN m) _ _ _ from r3).set (4 + t) _
      case measure => simp [intOf]; omega
    · rw [show t = 8 by omega] at r3
      have hd2 : decide ((t : Int) < 8) = false := by simp; omega
      have HE := (show Hid _ from st0_set key count nonce 12 (by omega) _ (stateL_count key count nonce))
      obtain ⟨v, hv⟩ : ∃ v, wr.cell? ⟨w.heap.size + 1 + 1 + 1, 12, none⟩ = some v := ⟨_, r3.cellW (by rw [st0_length _ _ _ _ (by omega)]; omega)⟩
      have f3 := r3.frozen 12
      generalize wr = W2 at *
      go_wp2
      replace r3 := r3.set 12 (.int .u32 (u count))
      rw [ws_set, HE.out] at r3
      replace r0 := r0.other (a := ⟨w.heap.size + 1 + 1 + 1, 12, none⟩) (by show w.heap.size ≠ w.heap.size + 1 + 1 + 1; omega) (.int .u32 (u count))
      replace r1 := r1.other (a := ⟨w.heap.size + 1 + 1 + 1, 12, none⟩) (by show w.heap.size + 1 ≠ w.heap.size + 1 + 1 + 1; omega) (.int .u32 (u count))
      replace r2 := r2.other (a := ⟨w.heap.size + 1 + 1 + 1, 12, none⟩) (by show w.heap.size + 1 + 1 ≠ w.heap.size + 1 + 1 + 1; omega) (.int .u32 (u count))
      replace hbel := hbel.setCell (p := ⟨w.heap.size + 1 + 1 + 1, 12, none⟩) (by show w.heap.size ≤ w.heap.size + 1 + 1 + 1; omega) (.int .u32 (u count))
      generalize W2.setCell ⟨w.heap.size + 1 + 1 + 1, 12, none⟩ (.int .u32 (u count)) = W3 at *
      go_loopw [9] (fun i wr => ∃ t : Nat, t ≤ 3 ∧ i = .int .i64 t ∧ Row wr w.heap.size 60 (bs key) ∧ Row wr (w.heap.size + 1) 72 (bs nonce) ∧ Row wr (w.heap.size + 1 + 1) 169 (ws (List.replicate 16 0)) ∧ Row wr (w.heap.size + 1 + 1 + 1) 169 (ws (st0 key count nonce (13 + t))) ∧ Below w.heap.size w wr)
        (fun i _ => 3 - (intOf i).toNat)
      case atStart => exact ⟨0, by omega, rfl, r0, r1, r2, r3, hbel⟩
      case round =>
        clear r0 r1 r2 r3 hbel
        obtain ⟨t, ht, rfl, r0, r1, r2, r3, hbel⟩ := hrel
        by_cases hlt : t < 3
        · have HE := (show Hid _ from st0_set key count nonce (13 + t) (by omega) _ (stateL_nonce key count nonce t hlt))
          obtain ⟨v, hv⟩ : ∃ v, wr.cell? ⟨w.heap.size + 1 + 1 + 1, 13 + t, none⟩ = some v := ⟨_, r3.cellW (by rw [st0_length _ _ _ _ (by omega)]; omega)⟩
          have f3 := r3.frozen (13 + t)
          have hp : (0 : Int) ≤ 13 + (t : Int) ∧ 13 + (t : Int) < 16 := by omega
          have hw0 : IntKind.i64.wrap (13 + (t : Int)) = 13 + (t : Int) := by rw [IntKind.wrap_i64]; omega
          have hw1 : IntKind.i64.wrap (4 * (t : Int)) = 4 * (t : Int) := by rw [IntKind.wrap_i64]; omega
          have hw2 : IntKind.i64.wrap (4 * (t : Int) + 4) = 4 * (t : Int) + 4 := by rw [IntKind.wrap_i64]; omega
          have q0 : (13 + (t : Int)).toNat = 13 + t := by omega
          have q1 : (4 * (t : Int)).toNat = 4 * t := by omega
          have q2 : (4 * (t : Int) + 4).toNat = 4 * t + 4 := by omega
          have p2 : (0 : Int) ≤ 4 * (t : Int) ∧ 4 * (t : Int) ≤ 4 * (t : Int) + 4 ∧ 4 * (t : Int) + 4 ≤ 12 := by omega
          go_wp2_with fail
          refine (refWord_any (w.heap.size + 1) (4 * t) (12 - 4 * t) 72 nonce t rfl (by rw [HN.out]; omega) _ r1).mono ?_
          rintro e1 w1 ⟨rfl, m, hw1⟩
          rw [hw1]
          clear hw1 w1
          generalize wordLE nonce t = X at *
          go_wp2
          go_roundw
          case rel =>
            refine ⟨t + 1, by omega, by go_num, (show Row (wr.drewN m) _ _ _ from r0).other (by show w.heap.size ≠ w.heap.size + 1 + 1 + 1; omega) _, (show Row (wr.drewN m) _ _ _ from r1).other (by show w.heap.size + 1 ≠ w.heap.size + 1 + 1 + 1; omega) _, (show Row (wr.drewN m) _ _ _ from r2).other (by show w.heap.size + 1 + 1 ≠ w.heap.size + 1 + 1 + 1; omega) _, ?_, (below_drewN hbel m).setCell (p := ⟨w.heap.size + 1 + 1 + 1, 13 + t, none⟩) (by show w.heap.size ≤ w.heap.size + 1 + 1 + 1; omega) _⟩
            rw [← Nat.add_assoc, ← HE.out, ← ws_set]
            exact (show Row (wr.drewN m) _ _ _ from r3).set (13 + t) _
          case measure => simp [intOf]; omega
        · rw [show t = 3 by omega] at r3
          have hd3 : decide ((t : Int) < 3) = false := by simp; omega
          have r4 : Row wr (w.heap.size + 1 + 1 + 1) 169 (ws (stateL key count nonce)) := by rw [← st0_all]; exact r3
          clear r3
          generalize wr = W4 at *
          go_wp2_with (first
            | (with_reducible (show wpList _ _ _ (⟨_, Op.load 169 _, _, _, _, _⟩ :: _) _ _)
               refine load_row rfl 169 _ rfl (w.heap.size + 1 + 1 + 1) rfl _ _ r4 16 76 Tryz.underlying169 (by kernel_rfl) (by rw [ws_size, stateL_length]) ?_)
            | (with_reducible (show wpList _ _ _ (⟨_, Op.store 169 _ _, _, _, _, _⟩ :: _) _ _)
               refine store_row rfl 169 _ _ rfl (w.heap.size + 1 + 1) (ws (stateL key count nonce)) rfl rfl _ _ r2 16 (by kernel_rfl) (by rw [ws_size, List.length_replicate]) (by rw [ws_size, stateL_length]) (ws_one _) ?_))
          refine bodyPost_ret (result_row rfl _ _ (w.heap.size + 1 + 1) _ _ (r2.put _) 16 76 rfl Tryz.underlying169 (by kernel_rfl) (by rw [ws_size, stateL_length])) rfl ⟨rfl, bSetRow hbel (by omega) _⟩
end Go.Proofs.YtlicflmpakkccaaGreatDoor

/-! What the functions that take four bytes as a word answer. -/
namespace Go.Proofs.YtlicflmpakkccaaGreatDoor
open Go Go.RowKit

set_option maxRecDepth 20000 in
set_option maxHeartbeats 400000 in
theorem chaRefLeft_any (x : Wd) (n : Int) (w : World) (h0 : 1 ≤ n) (h1 : n ≤ 31) :
    Calls Tryz.prog 140 #[.int .u32 (u x), .int .i64 n] w fun e w' => e = .returned (.int .u32 (u (rl x n.toNat))) ∧ ∃ m, w' = w.drewN m := by
  have hx0 := u_nn x
  have hx1 := u_le x
  have hs1 := wsl x n.toNat
  have hs2 := wsr x (32 - n.toNat)
  have hb : bits .or .u32 (u (sl x n.toNat)) (u (sr x (32 - n.toNat))) = u (rl x n.toNat) := bo (sl x n.toNat) (sr x (32 - n.toNat))
  have e1 : (32 - n).toNat = 32 - n.toNat := by omega
  go_enter Tryz.func140, Tryz.ntmps140
  go_wp2
  go_quiet (fail)
  go_wp2
  go_ret
  exact ⟨rfl, _, rfl⟩


end Go.Proofs.YtlicflmpakkccaaGreatDoor
