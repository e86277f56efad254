/-
  Out of ChaRefState, ChaLeft, ChaQuart, ChaSt, ChaRefBlock.
-/
import Derived.Test.YtbheoldakmcppaaGreatDoorGs30
import Derived.Test.YtbheoldakmcppaaGreatDoorRows
import Derived.Test.YtbheoldakmcppaaGreatDoorGs2
import Derived.Deep.QuietTactic
import Derived.BigQuiet
import Derived.BigRegion
import Derived.Deep.Cut
import Derived.Deep.CutRange
import Derived.Deep.RegionHeld3
import Derived.Deep.RegionWith
import Derived.Deep.DrawnRows
import Derived.Test.YtbheoldakmcppaaGreatDoorGs3

/-! What the document's State answers. -/
namespace Go.Proofs.YtbheoldakmcppaaGreatDoor
open Go Go.RowKit

set_option maxRecDepth 20000 in
set_option maxHeartbeats 400000 in
theorem refWord_any (g o : Nat) (cap : Nat) (t : TypeId) (b : List By) (q : Nat) (ho : o = 4 * q) (hq : 4 * q + 4 ≤ b.length) (w : World) (hr : Row w g t (bs b)) :
    Calls Tryz.prog 177 #[.slice (some ⟨g, o, none⟩) 4 cap] w fun e w' => e = .returned (.int .u32 (u (wordLE b q))) ∧ ∃ m, w' = w.drewN m := by
  have c0 := hr.cellB (j := 4 * q) (by omega)
  have c1 := hr.cellB (j := 4 * q + 1) (by omega)
  have c2 := hr.cellB (j := 4 * q + 2) (by omega)
  have c3 := hr.cellB (j := 4 * q + 3) (by omega)
  subst ho
  have HWd : Hid (wordLE b q = oo (oo (oo (ex (gb b (4 * q))) (sl (ex (gb b (4 * q + 1))) 8)) (sl (ex (gb b (4 * q + 2))) 16)) (sl (ex (gb b (4 * q + 3))) 24)) := show _ = _ by rfl
  rw [v8_ex] at c0 c1 c2 c3
  generalize gb b (4 * q) = b0 at *
  generalize gb b (4 * q + 1) = b1 at *
  generalize gb b (4 * q + 2) = b2 at *
  generalize gb b (4 * q + 3) = b3 at *
  have u0 := u_nn (ex b0); have u1 := u_nn (ex b1); have u2 := u_nn (ex b2); have u3 := u_nn (ex b3)
  have l0 : u (ex b0) ≤ 255 := by rw [← v8_ex]; exact v8_le _
  have l1 : u (ex b1) ≤ 255 := by rw [← v8_ex]; exact v8_le _
  have l2 : u (ex b2) ≤ 255 := by rw [← v8_ex]; exact v8_le _
  have l3 : u (ex b3) ≤ 255 := by rw [← v8_ex]; exact v8_le _
  have HV : Hid (bits .or .u32 (bits .or .u32 (bits .or .u32 (u (ex b0)) (u (ex b1) * 256)) (u (ex b2) * 65536)) (u (ex b3) * 16777216) = u (wordLE b q)) := show _ = _ by
    rw [shlS (ex b1) 8 256 (by decide) (by omega), shlS (ex b2) 16 65536 (by decide) (by omega), shlS (ex b3) 24 16777216 (by decide) (by omega), bo, bo, bo, HWd.out]
  clear hr hq
  go_enter Tryz.func177, Tryz.ntmps177
  go_wp2
  go_quiet (fail)
  go_wp2
  go_ret
  exact ⟨by rw [← HV.out]; rfl, _, rfl⟩

/-- The first four words, and nothing yet behind them. -/
theorem beg_row (key : List By) (count : Wd) (nonce : List By) : ws (st0 key count nonce 4) = #[.int .u32 1634760805, .int .u32 857760878, .int .u32 2036477234, .int .u32 1797285236, .int .u32 0, .int .u32 0, .int .u32 0, .int .u32 0, .int .u32 0, .int .u32 0, .int .u32 0, .int .u32 0, .int .u32 0, .int .u32 0, .int .u32 0, .int .u32 0] := by rfl

set_option maxRecDepth 20000 in
set_option maxHeartbeats 1000000 in
theorem refState_any (key : List By) (count : Wd) (nonce : List By) (hk : key.length = 32) (hn : nonce.length = 12) (w : World) :
    Calls Tryz.prog 156 #[.agg (bs key), .int .u32 (u count), .agg (bs nonce)] w fun e w' => e = .returned (.agg (ws (stateL key count nonce))) ∧ Below w.heap.size w w' := by
  have HK : Hid (key.length = 32) := hk
  have HN : Hid (nonce.length = 12) := hn
  clear hk hn
  go_enter Tryz.func156, Tryz.ntmps156
  go_wp2
  go_loopw [8] (fun i wr => ∃ t : Nat, t ≤ 8 ∧ i = .int .i64 t ∧ Row wr w.heap.size 78 (bs key) ∧ Row wr (w.heap.size + 1) 76 (bs nonce) ∧ Row wr (w.heap.size + 1 + 1) 209 (ws (List.replicate 16 0)) ∧ Row wr (w.heap.size + 1 + 1 + 1) 209 (ws (st0 key count nonce (4 + t))) ∧ Below w.heap.size w wr)
    (fun i _ => 8 - (intOf i).toNat)
  case atStart => exact ⟨0, by omega, rfl, (((Row.new _ _ _).alloc _).alloc _).alloc _, ((Row.new1 _ _ _ _).alloc _).alloc _, (Row.new2 _ _ _ _ (ws (List.replicate 16 0))).alloc _, by rw [Nat.add_zero, beg_row]; exact Row.new3 _ _ _ _ _ _, ((((Below.refl _ w).alloc (Nat.le_refl _) _).alloc (by simp) _).alloc (by simp; omega) _).alloc (by simp; omega) _⟩
  case round =>
    obtain ⟨t, ht, rfl, r0, r1, r2, r3, hbel⟩ := hrel
    by_cases hlt : t < 8
    · have HE := (show Hid _ from st0_set key count nonce (4 + t) (by omega) _ (stateL_key key count nonce t hlt))
      obtain ⟨v, hv⟩ : ∃ v, wr.cell? ⟨w.heap.size + 1 + 1 + 1, 4 + t, none⟩ = some v := ⟨_, r3.cellW (by rw [st0_length _ _ _ _ (by omega)]; omega)⟩
      have f3 := r3.frozen (4 + t)
      have hp : (0 : Int) ≤ 4 + (t : Int) ∧ 4 + (t : Int) < 16 := by omega
      have hw0 : IntKind.i64.wrap (4 + (t : Int)) = 4 + (t : Int) := by rw [IntKind.wrap_i64]; omega
      have hw1 : IntKind.i64.wrap (4 * (t : Int)) = 4 * (t : Int) := by rw [IntKind.wrap_i64]; omega
      have hw2 : IntKind.i64.wrap (4 * (t : Int) + 4) = 4 * (t : Int) + 4 := by rw [IntKind.wrap_i64]; omega
      have q0 : (4 + (t : Int)).toNat = 4 + t := by omega
      have q1 : (4 * (t : Int)).toNat = 4 * t := by omega
      have q2 : (4 * (t : Int) + 4).toNat = 4 * t + 4 := by omega
      have p2 : (0 : Int) ≤ 4 * (t : Int) ∧ 4 * (t : Int) ≤ 4 * (t : Int) + 4 ∧ 4 * (t : Int) + 4 ≤ 32 := by omega
      go_wp2_with fail
      refine (refWord_any w.heap.size (4 * t) (32 - 4 * t) 78 key t rfl (by rw [HK.out]; omega) _ r0).mono ?_
      rintro e1 w1 ⟨rfl, m, hw1⟩
      rw [hw1]
      clear hw1 w1
      generalize wordLE key t = X at *
      go_wp2
      go_roundw
      case rel =>
        refine ⟨t + 1, by omega, by go_num, (show Row (wr.drewN m) _ _ _ from r0).other (by show w.heap.size ≠ w.heap.size + 1 + 1 + 1; omega) _, (show Row (wr.drewN m) _ _ _ from r1).other (by show w.heap.size + 1 ≠ w.heap.size + 1 + 1 + 1; omega) _, (show Row (wr.drewN m) _ _ _ from r2).other (by show w.heap.size + 1 + 1 ≠ w.heap.size + 1 + 1 + 1; omega) _, ?_, (below_drewN hbel m).setCell (p := ⟨w.heap.size + 1 + 1 + 1, 4 + t, none⟩) (by show w.heap.size ≤ w.heap.size + 1 + 1 + 1; omega) _⟩
        rw [← Nat.add_assoc, ← HE.out, ← ws_set]
        exact (show Row (wr.drewN m) _ _ _ from r3).set (4 + t) _
      case measure => simp [intOf]; omega
    · rw [show t = 8 by omega] at r3
      have hd2 : decide ((t : Int) < 8) = false := by simp; omega
      have HE := (show Hid _ from st0_set key count nonce 12 (by omega) _ (stateL_count key count nonce))
      obtain ⟨v, hv⟩ : ∃ v, wr.cell? ⟨w.heap.size + 1 + 1 + 1, 12, none⟩ = some v := ⟨_, r3.cellW (by rw [st0_length _ _ _ _ (by omega)]; omega)⟩
      have f3 := r3.frozen 12
      generalize wr = W2 at *
      go_wp2
      replace r3 := r3.set 12 (.int .u32 (u count))
      rw [ws_set, HE.out] at r3
      replace r0 := r0.other (a := ⟨w.heap.size + 1 + 1 + 1, 12, none⟩) (by show w.heap.size ≠ w.heap.size + 1 + 1 + 1; omega) (.int .u32 (u count))
      replace r1 := r1.other (a := ⟨w.heap.size + 1 + 1 + 1, 12, none⟩) (by show w.heap.size + 1 ≠ w.heap.size + 1 + 1 + 1; omega) (.int .u32 (u count))
      replace r2 := r2.other (a := ⟨w.heap.size + 1 + 1 + 1, 12, none⟩) (by show w.heap.size + 1 + 1 ≠ w.heap.size + 1 + 1 + 1; omega) (.int .u32 (u count))
      replace hbel := hbel.setCell (p := ⟨w.heap.size + 1 + 1 + 1, 12, none⟩) (by show w.heap.size ≤ w.heap.size + 1 + 1 + 1; omega) (.int .u32 (u count))
      generalize W2.setCell ⟨w.heap.size + 1 + 1 + 1, 12, none⟩ (.int .u32 (u count)) = W3 at *
      go_loopw [9] (fun i wr => ∃ t : Nat, t ≤ 3 ∧ i = .int .i64 t ∧ Row wr w.heap.size 78 (bs key) ∧ Row wr (w.heap.size + 1) 76 (bs nonce) ∧ Row wr (w.heap.size + 1 + 1) 209 (ws (List.replicate 16 0)) ∧ Row wr (w.heap.size + 1 + 1 + 1) 209 (ws (st0 key count nonce (13 + t))) ∧ Below w.heap.size w wr)
        (fun i _ => 3 - (intOf i).toNat)
      case atStart => exact ⟨0, by omega, rfl, r0, r1, r2, r3, hbel⟩
      case round =>
        clear r0 r1 r2 r3 hbel
        obtain ⟨t, ht, rfl, r0, r1, r2, r3, hbel⟩ := hrel
        by_cases hlt : t < 3
        · have HE := (show Hid _ from st0_set key count nonce (13 + t) (by omega) _ (stateL_nonce key count nonce t hlt))
          obtain ⟨v, hv⟩ : ∃ v, wr.cell? ⟨w.heap.size + 1 + 1 + 1, 13 + t, none⟩ = some v := ⟨_, r3.cellW (by rw [st0_length _ _ _ _ (by omega)]; omega)⟩
          have f3 := r3.frozen (13 + t)
          have hp : (0 : Int) ≤ 13 + (t : Int) ∧ 13 + (t : Int) < 16 := by omega
          have hw0 : IntKind.i64.wrap (13 + (t : Int)) = 13 + (t : Int) := by rw [IntKind.wrap_i64]; omega
          have hw1 : IntKind.i64.wrap (4 * (t : Int)) = 4 * (t : Int) := by rw [IntKind.wrap_i64]; omega
          have hw2 : IntKind.i64.wrap (4 * (t : Int) + 4) = 4 * (t : Int) + 4 := by rw [IntKind.wrap_i64]; omega
          have q0 : (13 + (t : Int)).toNat = 13 + t := by omega
          have q1 : (4 * (t : Int)).toNat = 4 * t := by omega
          have q2 : (4 * (t : Int) + 4).toNat = 4 * t + 4 := by omega
          have p2 : (0 : Int) ≤ 4 * (t : Int) ∧ 4 * (t : Int) ≤ 4 * (t : Int) + 4 ∧ 4 * (t : Int) + 4 ≤ 12 := by omega
          go_wp2_with fail
          refine (refWord_any (w.heap.size + 1) (4 * t) (12 - 4 * t) 76 nonce t rfl (by rw [HN.out]; omega) _ r1).mono ?_
          rintro e1 w1 ⟨rfl, m, hw1⟩
          rw [hw1]
          clear hw1 w1
          generalize wordLE nonce t = X at *
          go_wp2
          go_roundw
          case rel =>
            refine ⟨t + 1, by omega, by go_num, (show Row (wr.drewN m) _ _ _ from r0).other (by show w.heap.size ≠ w.heap.size + 1 + 1 + 1; omega) _, (show Row (wr.drewN m) _ _ _ from r1).other (by show w.heap.size + 1 ≠ w.heap.size + 1 + 1 + 1; omega) _, (show Row (wr.drewN m) _ _ _ from r2).other (by show w.heap.size + 1 + 1 ≠ w.heap.size + 1 + 1 + 1; omega) _, ?_, (below_drewN hbel m).setCell (p := ⟨w.heap.size + 1 + 1 + 1, 13 + t, none⟩) (by show w.heap.size ≤ w.heap.size + 1 + 1 + 1; omega) _⟩
            rw [← Nat.add_assoc, ← HE.out, ← ws_set]
            exact (show Row (wr.drewN m) _ _ _ from r3).set (13 + t) _
          case measure => simp [intOf]; omega
        · rw [show t = 3 by omega] at r3
          have hd3 : decide ((t : Int) < 3) = false := by simp; omega
          have r4 : Row wr (w.heap.size + 1 + 1 + 1) 209 (ws (stateL key count nonce)) := by rw [← st0_all]; exact r3
          clear r3
          generalize wr = W4 at *
          go_wp2_with (first
            | (with_reducible (show wpList _ _ _ (⟨_, Op.load 209 _, _, _, _, _⟩ :: _) _ _)
               refine load_row rfl 209 _ rfl (w.heap.size + 1 + 1 + 1) rfl _ _ r4 16 91 Tryz.underlying209 (by kernel_rfl) (by rw [ws_size, stateL_length]) ?_)
            | (with_reducible (show wpList _ _ _ (⟨_, Op.store 209 _ _, _, _, _, _⟩ :: _) _ _)
               refine store_row rfl 209 _ _ rfl (w.heap.size + 1 + 1) (ws (stateL key count nonce)) rfl rfl _ _ r2 16 (by kernel_rfl) (by rw [ws_size, List.length_replicate]) (by rw [ws_size, stateL_length]) (ws_one _) ?_))
          refine bodyPost_ret (result_row rfl _ _ (w.heap.size + 1 + 1) _ _ (r2.put _) 16 91 rfl Tryz.underlying209 (by kernel_rfl) (by rw [ws_size, stateL_length])) rfl ⟨rfl, bSetRow hbel (by omega) _⟩
end Go.Proofs.YtbheoldakmcppaaGreatDoor

/-! What the functions that take four bytes as a word answer. -/
namespace Go.Proofs.YtbheoldakmcppaaGreatDoor
open Go Go.RowKit

set_option maxRecDepth 20000 in
set_option maxHeartbeats 400000 in
theorem chaRefLeft_any (x : Wd) (n : Int) (w : World) (h0 : 1 ≤ n) (h1 : n ≤ 31) :
    Calls Tryz.prog 178 #[.int .u32 (u x), .int .i64 n] w fun e w' => e = .returned (.int .u32 (u (rl x n.toNat))) ∧ ∃ m, w' = w.drewN m := by
  have hx0 := u_nn x
  have hx1 := u_le x
  have hs1 := wsl x n.toNat
  have hs2 := wsr x (32 - n.toNat)
  have hb : bits .or .u32 (u (sl x n.toNat)) (u (sr x (32 - n.toNat))) = u (rl x n.toNat) := bo (sl x n.toNat) (sr x (32 - n.toNat))
  have e1 : (32 - n).toNat = 32 - n.toNat := by omega
  go_enter Tryz.func178, Tryz.ntmps178
  go_wp2
  go_quiet (fail)
  go_wp2
  go_ret
  exact ⟨rfl, _, rfl⟩


end Go.Proofs.YtbheoldakmcppaaGreatDoor

/-! The document's quarter round, in its place. -/
namespace Go.Proofs.YtbheoldakmcppaaGreatDoor
open Go Go.RowKit

/-- One word and another added; one taken against another and turned: in their place. -/
def stepA (s : List Wd) (x y : Nat) : List Wd := s.set x (ad (gw s x) (gw s y))
def stepX (s : List Wd) (x y : Nat) (n : Nat) : List Wd := s.set x (rl (xr (gw s x) (gw s y)) n)

set_option maxRecDepth 20000 in
set_option maxHeartbeats 4000000 in
theorem refQuarter_any (g a b c d : Nat) (t : TypeId) (s : List Wd) (hs : s.length = 16) (ha : a < 16) (hb : b < 16) (hc : c < 16) (hd : d < 16) (w : World) (hr : Row w g t (ws s)) :
    Calls Tryz.prog 157 #[.pointer (some ⟨g, 0, none⟩), .int .i64 a, .int .i64 b, .int .i64 c, .int .i64 d] w fun e w' => e = .returned (.tuple #[]) ∧
      Row w' g t (ws (stepX (stepA (stepX (stepA (stepX (stepA (stepX (stepA s a b) d a 16) c d) b c 12) a b) d a 8) c d) b c 7)) ∧ ∀ n, n ≤ g → Below n w w' := by
  have HS0 : Hid (s.length = 16) := hs
  have HR0 : Hid (Row w g t (ws s)) := hr
  have HB0 : Hid (∀ n, n ≤ g → Below n w w) := show ∀ n, n ≤ g → Below n w w from fun n _ => Below.refl n w
  clear hs hr
  obtain ⟨s0, HE0⟩ : ∃ s0, Hid (s0 = s) := ⟨s, rfl⟩
  rw [← HE0.out] at HS0 HR0
  obtain ⟨w0, HW0⟩ : ∃ w0, Hid (w0 = w) := ⟨w, rfl⟩
  have p1 : (0 : Int) ≤ (a : Int) ∧ (a : Int) < 16 := by omega
  have p2 : (0 : Int) ≤ (b : Int) ∧ (b : Int) < 16 := by omega
  have p3 : (0 : Int) ≤ (c : Int) ∧ (c : Int) < 16 := by omega
  have p4 : (0 : Int) ≤ (d : Int) ∧ (d : Int) < 16 := by omega
  go_enter Tryz.func157, Tryz.ntmps157
  go_upto_region 0 with fail
  go_cut [] from 10 to 24 (fun wx => Row wx g t (ws (stepA s0 a b)) ∧ ∀ n, n ≤ g → Below n w wx)
  case first =>
    have cx := HR0.out.cellW (j := a) (by rw [HS0.out]; omega)
    have cy := HR0.out.cellW (j := b) (by rw [HS0.out]; omega)
    have fx := HR0.out.frozen a
    have HE : Hid (stepA s0 a b = s0.set a (ad (gw s0 a) (gw s0 b))) := show _ = _ by rfl
    generalize gw s0 a = X at *
    generalize gw s0 b = Y at *
    have hp := wadd X Y
    go_region
    all_goals
      go_wp2_with fail
      go_meet
      case rel => exact ⟨by rw [HE.out, ← ws_set]; exact (HR0.out.set a (.int .u32 (u (ad X Y)))).drew, fun n hn => ((HB0.out n hn).setCell (p := ⟨g, a, none⟩) hn _).drew⟩
  obtain ⟨hr, hb1⟩ := hcut
  have HR1 : Hid (Row wc g t (ws (stepA s0 a b))) := hr
  have HB1 : Hid (∀ n, n ≤ g → Below n w wc) := hb1
  have HS1 : Hid ((stepA s0 a b).length = 16) := show _ = _ by unfold stepA; rw [List.length_set]; exact HS0.out
  clear hr hb1 HR0 HB0 HS0
  generalize wc = w1 at *
  obtain ⟨s1, HE1⟩ : ∃ zz, Hid (zz = stepA s0 a b) := ⟨_, rfl⟩
  rw [← HE1.out] at HR1 HS1
  go_upto_region 1 with fail
  go_cut [] from 25 to 40 (fun wx => Row wx g t (ws (stepX s1 d a 16)) ∧ ∀ n, n ≤ g → Below n w wx)
  case first =>
    have cx := HR1.out.cellW (j := d) (by rw [HS1.out]; omega)
    have cy := HR1.out.cellW (j := a) (by rw [HS1.out]; omega)
    have fx := HR1.out.frozen d
    have HE : Hid (stepX s1 d a 16 = s1.set d (rl (xr (gw s1 d) (gw s1 a)) 16)) := show _ = _ by rfl
    generalize gw s1 d = X at *
    generalize gw s1 a = Y at *
    have hp := bx X Y
    go_region_with (first | (go_at_call 178; refine (chaRefLeft_any (xr X Y) 16 _ (by omega) (by omega)).mono ?_; rintro e1 wz ⟨rfl, m, hw⟩; rw [hw]; clear hw))
    all_goals
      go_wp2_with fail
      go_meet
      case rel => exact ⟨by rw [HE.out, ← ws_set]; exact (show Row (w1.drewN _) g t (ws s1) from HR1.out).set d (.int .u32 (u (rl (xr X Y) 16))), fun n hn => (below_drewN (HB1.out n hn) _).setCell (p := ⟨g, d, none⟩) hn _⟩
  obtain ⟨hr, hb2⟩ := hcut
  have HR2 : Hid (Row wc g t (ws (stepX s1 d a 16))) := hr
  have HB2 : Hid (∀ n, n ≤ g → Below n w wc) := hb2
  have HS2 : Hid ((stepX s1 d a 16).length = 16) := show _ = _ by unfold stepX; rw [List.length_set]; exact HS1.out
  clear hr hb2 HR1 HB1 HS1
  generalize wc = w2 at *
  obtain ⟨s2, HE2⟩ : ∃ zz, Hid (zz = stepX s1 d a 16) := ⟨_, rfl⟩
  rw [← HE2.out] at HR2 HS2
  go_upto_region 2 with fail
  go_cut [] from 41 to 55 (fun wx => Row wx g t (ws (stepA s2 c d)) ∧ ∀ n, n ≤ g → Below n w wx)
  case first =>
    have cx := HR2.out.cellW (j := c) (by rw [HS2.out]; omega)
    have cy := HR2.out.cellW (j := d) (by rw [HS2.out]; omega)
    have fx := HR2.out.frozen c
    have HE : Hid (stepA s2 c d = s2.set c (ad (gw s2 c) (gw s2 d))) := show _ = _ by rfl
    generalize gw s2 c = X at *
    generalize gw s2 d = Y at *
    have hp := wadd X Y
    go_region
    all_goals
      go_wp2_with fail
      go_meet
      case rel => exact ⟨by rw [HE.out, ← ws_set]; exact (HR2.out.set c (.int .u32 (u (ad X Y)))).drew, fun n hn => ((HB2.out n hn).setCell (p := ⟨g, c, none⟩) hn _).drew⟩
  obtain ⟨hr, hb3⟩ := hcut
  have HR3 : Hid (Row wc g t (ws (stepA s2 c d))) := hr
  have HB3 : Hid (∀ n, n ≤ g → Below n w wc) := hb3
  have HS3 : Hid ((stepA s2 c d).length = 16) := show _ = _ by unfold stepA; rw [List.length_set]; exact HS2.out
  clear hr hb3 HR2 HB2 HS2
  generalize wc = w3 at *
  obtain ⟨s3, HE3⟩ : ∃ zz, Hid (zz = stepA s2 c d) := ⟨_, rfl⟩
  rw [← HE3.out] at HR3 HS3
  go_upto_region 3 with fail
  go_cut [] from 56 to 71 (fun wx => Row wx g t (ws (stepX s3 b c 12)) ∧ ∀ n, n ≤ g → Below n w wx)
  case first =>
    have cx := HR3.out.cellW (j := b) (by rw [HS3.out]; omega)
    have cy := HR3.out.cellW (j := c) (by rw [HS3.out]; omega)
    have fx := HR3.out.frozen b
    have HE : Hid (stepX s3 b c 12 = s3.set b (rl (xr (gw s3 b) (gw s3 c)) 12)) := show _ = _ by rfl
    generalize gw s3 b = X at *
    generalize gw s3 c = Y at *
    have hp := bx X Y
    go_region_with (first | (go_at_call 178; refine (chaRefLeft_any (xr X Y) 12 _ (by omega) (by omega)).mono ?_; rintro e1 wz ⟨rfl, m, hw⟩; rw [hw]; clear hw))
    all_goals
      go_wp2_with fail
      go_meet
      case rel => exact ⟨by rw [HE.out, ← ws_set]; exact (show Row (w3.drewN _) g t (ws s3) from HR3.out).set b (.int .u32 (u (rl (xr X Y) 12))), fun n hn => (below_drewN (HB3.out n hn) _).setCell (p := ⟨g, b, none⟩) hn _⟩
  obtain ⟨hr, hb4⟩ := hcut
  have HR4 : Hid (Row wc g t (ws (stepX s3 b c 12))) := hr
  have HB4 : Hid (∀ n, n ≤ g → Below n w wc) := hb4
  have HS4 : Hid ((stepX s3 b c 12).length = 16) := show _ = _ by unfold stepX; rw [List.length_set]; exact HS3.out
  clear hr hb4 HR3 HB3 HS3
  generalize wc = w4 at *
  obtain ⟨s4, HE4⟩ : ∃ zz, Hid (zz = stepX s3 b c 12) := ⟨_, rfl⟩
  rw [← HE4.out] at HR4 HS4
  go_upto_region 4 with fail
  go_cut [] from 72 to 86 (fun wx => Row wx g t (ws (stepA s4 a b)) ∧ ∀ n, n ≤ g → Below n w wx)
  case first =>
    have cx := HR4.out.cellW (j := a) (by rw [HS4.out]; omega)
    have cy := HR4.out.cellW (j := b) (by rw [HS4.out]; omega)
    have fx := HR4.out.frozen a
    have HE : Hid (stepA s4 a b = s4.set a (ad (gw s4 a) (gw s4 b))) := show _ = _ by rfl
    generalize gw s4 a = X at *
    generalize gw s4 b = Y at *
    have hp := wadd X Y
    go_region
    all_goals
      go_wp2_with fail
      go_meet
      case rel => exact ⟨by rw [HE.out, ← ws_set]; exact (HR4.out.set a (.int .u32 (u (ad X Y)))).drew, fun n hn => ((HB4.out n hn).setCell (p := ⟨g, a, none⟩) hn _).drew⟩
  obtain ⟨hr, hb5⟩ := hcut
  have HR5 : Hid (Row wc g t (ws (stepA s4 a b))) := hr
  have HB5 : Hid (∀ n, n ≤ g → Below n w wc) := hb5
  have HS5 : Hid ((stepA s4 a b).length = 16) := show _ = _ by unfold stepA; rw [List.length_set]; exact HS4.out
  clear hr hb5 HR4 HB4 HS4
  generalize wc = w5 at *
  obtain ⟨s5, HE5⟩ : ∃ zz, Hid (zz = stepA s4 a b) := ⟨_, rfl⟩
  rw [← HE5.out] at HR5 HS5
  go_upto_region 5 with fail
  go_cut [] from 87 to 102 (fun wx => Row wx g t (ws (stepX s5 d a 8)) ∧ ∀ n, n ≤ g → Below n w wx)
  case first =>
    have cx := HR5.out.cellW (j := d) (by rw [HS5.out]; omega)
    have cy := HR5.out.cellW (j := a) (by rw [HS5.out]; omega)
    have fx := HR5.out.frozen d
    have HE : Hid (stepX s5 d a 8 = s5.set d (rl (xr (gw s5 d) (gw s5 a)) 8)) := show _ = _ by rfl
    generalize gw s5 d = X at *
    generalize gw s5 a = Y at *
    have hp := bx X Y
    go_region_with (first | (go_at_call 178; refine (chaRefLeft_any (xr X Y) 8 _ (by omega) (by omega)).mono ?_; rintro e1 wz ⟨rfl, m, hw⟩; rw [hw]; clear hw))
    all_goals
      go_wp2_with fail
      go_meet
      case rel => exact ⟨by rw [HE.out, ← ws_set]; exact (show Row (w5.drewN _) g t (ws s5) from HR5.out).set d (.int .u32 (u (rl (xr X Y) 8))), fun n hn => (below_drewN (HB5.out n hn) _).setCell (p := ⟨g, d, none⟩) hn _⟩
  obtain ⟨hr, hb6⟩ := hcut
  have HR6 : Hid (Row wc g t (ws (stepX s5 d a 8))) := hr
  have HB6 : Hid (∀ n, n ≤ g → Below n w wc) := hb6
  have HS6 : Hid ((stepX s5 d a 8).length = 16) := show _ = _ by unfold stepX; rw [List.length_set]; exact HS5.out
  clear hr hb6 HR5 HB5 HS5
  generalize wc = w6 at *
  obtain ⟨s6, HE6⟩ : ∃ zz, Hid (zz = stepX s5 d a 8) := ⟨_, rfl⟩
  rw [← HE6.out] at HR6 HS6
  go_upto_region 6 with fail
  go_cut [] from 103 to 117 (fun wx => Row wx g t (ws (stepA s6 c d)) ∧ ∀ n, n ≤ g → Below n w wx)
  case first =>
    have cx := HR6.out.cellW (j := c) (by rw [HS6.out]; omega)
    have cy := HR6.out.cellW (j := d) (by rw [HS6.out]; omega)
    have fx := HR6.out.frozen c
    have HE : Hid (stepA s6 c d = s6.set c (ad (gw s6 c) (gw s6 d))) := show _ = _ by rfl
    generalize gw s6 c = X at *
    generalize gw s6 d = Y at *
    have hp := wadd X Y
    go_region
    all_goals
      go_wp2_with fail
      go_meet
      case rel => exact ⟨by rw [HE.out, ← ws_set]; exact (HR6.out.set c (.int .u32 (u (ad X Y)))).drew, fun n hn => ((HB6.out n hn).setCell (p := ⟨g, c, none⟩) hn _).drew⟩
  obtain ⟨hr, hb7⟩ := hcut
  have HR7 : Hid (Row wc g t (ws (stepA s6 c d))) := hr
  have HB7 : Hid (∀ n, n ≤ g → Below n w wc) := hb7
  have HS7 : Hid ((stepA s6 c d).length = 16) := show _ = _ by unfold stepA; rw [List.length_set]; exact HS6.out
  clear hr hb7 HR6 HB6 HS6
  generalize wc = w7 at *
  obtain ⟨s7, HE7⟩ : ∃ zz, Hid (zz = stepA s6 c d) := ⟨_, rfl⟩
  rw [← HE7.out] at HR7 HS7
  have cx := HR7.out.cellW (j := b) (by rw [HS7.out]; omega)
  have cy := HR7.out.cellW (j := c) (by rw [HS7.out]; omega)
  have fx := HR7.out.frozen b
  have HE : Hid (stepX s7 b c 7 = s7.set b (rl (xr (gw s7 b) (gw s7 c)) 7)) := show _ = _ by rfl
  generalize gw s7 b = X at *
  generalize gw s7 c = Y at *
  have hp := bx X Y
  go_wp2_with fail
  go_region_with (first | (go_at_call 178; refine (chaRefLeft_any (xr X Y) 7 _ (by omega) (by omega)).mono ?_; rintro e1 wz ⟨rfl, m, hw⟩; rw [hw]; clear hw))
  all_goals
    go_wp2_with fail
    go_end0
    refine ⟨rfl, ?_, fun n hn => (below_drewN (HB7.out n hn) _).setCell (p := ⟨g, b, none⟩) hn _⟩
    rw [← HE0.out, ← HE1.out, ← HE2.out, ← HE3.out, ← HE4.out, ← HE5.out, ← HE6.out, ← HE7.out, HE.out, ← ws_set]
    exact (show Row (w7.drewN _) g t (ws s7) from HR7.out).set b (.int .u32 (u (rl (xr X Y) 7)))
end Go.Proofs.YtbheoldakmcppaaGreatDoor

/-! Four words of a state, in their place. -/
namespace Go.Proofs.YtbheoldakmcppaaGreatDoor
open Go

theorem gw_set (s : List Wd) (i j : Nat) (x : Wd) (hi : i < s.length) : gw (s.set i x) j = if i = j then x else gw s j := by
  unfold gw
  by_cases hij : i = j
  · subst hij; simp [hi]
  · simp [hij]
/-- Four places, none twice. -/
structure Four (n a b c d : Nat) : Prop where
  ha : a < n
  hb : b < n
  hc : c < n
  hd : d < n
  ab : a ≠ b
  ac : a ≠ c
  ad : a ≠ d
  bc : b ≠ c
  bd : b ≠ d
  cd : c ≠ d
theorem qi_four (k : Nat) (hk : k < 8) : Four 16 (qi k 0) (qi k 1) (qi k 2) (qi k 3) := by
  match k, hk with
  | 0, _ => constructor <;> decide
  | 1, _ => constructor <;> decide
  | 2, _ => constructor <;> decide
  | 3, _ => constructor <;> decide
  | 4, _ => constructor <;> decide
  | 5, _ => constructor <;> decide
  | 6, _ => constructor <;> decide
  | 7, _ => constructor <;> decide

def st (s : List Wd) (a b c d : Nat) (A B C D : Wd) : List Wd := (((s.set a A).set b B).set c C).set d D
theorem set_d (s : List Wd) (a b c d : Nat) (A B C D X : Wd) : (st s a b c d A B C D).set d X = st s a b c d A B C X := by
  unfold st
  rw [List.set_set]
section
variable {s : List Wd} {a b c d : Nat} (h : Four s.length a b c d) (A B C D X : Wd)
include h
theorem st_a : gw (st s a b c d A B C D) a = A := by
  unfold st
  rw [gw_set _ _ _ _ (by simp; exact h.hd), if_neg h.ad.symm, gw_set _ _ _ _ (by simp; exact h.hc), if_neg h.ac.symm, gw_set _ _ _ _ (by simp; exact h.hb), if_neg h.ab.symm, gw_set _ _ _ _ h.ha, if_pos rfl]
theorem st_b : gw (st s a b c d A B C D) b = B := by
  unfold st
  rw [gw_set _ _ _ _ (by simp; exact h.hd), if_neg h.bd.symm, gw_set _ _ _ _ (by simp; exact h.hc), if_neg h.bc.symm, gw_set _ _ _ _ (by simp; exact h.hb), if_pos rfl]
theorem st_c : gw (st s a b c d A B C D) c = C := by
  unfold st
  rw [gw_set _ _ _ _ (by simp; exact h.hd), if_neg h.cd.symm, gw_set _ _ _ _ (by simp; exact h.hc), if_pos rfl]
theorem st_d : gw (st s a b c d A B C D) d = D := by
  unfold st
  rw [gw_set _ _ _ _ (by simp; exact h.hd), if_pos rfl]
theorem set_a : (st s a b c d A B C D).set a X = st s a b c d X B C D := by
  unfold st
  rw [List.set_comm _ _ h.ad.symm, List.set_comm _ _ h.ac.symm, List.set_comm _ _ h.ab.symm, List.set_set]
theorem set_b : (st s a b c d A B C D).set b X = st s a b c d A X C D := by
  unfold st
  rw [List.set_comm _ _ h.bd.symm, List.set_comm _ _ h.bc.symm, List.set_set]
theorem set_c : (st s a b c d A B C D).set c X = st s a b c d A B X D := by
  unfold st
  rw [List.set_comm _ _ h.cd.symm, List.set_set]
theorem st_self : st s a b c d (gw s a) (gw s b) (gw s c) (gw s d) = s := by
  have e : ∀ i, i < s.length → s.set i (gw s i) = s := fun i hi => by
    have : gw s i = s[i] := by unfold gw; rw [List.getElem?_eq_getElem hi]; rfl
    rw [this]
    exact List.set_getElem_self hi
  unfold st
  rw [e a h.ha, e b h.hb, e c h.hc, e d h.hd]
theorem stA_ab : stepA (st s a b c d A B C D) a b = st s a b c d (ad A B) B C D := by unfold stepA; rw [st_a h, st_b h, set_a h]
theorem stA_cd : stepA (st s a b c d A B C D) c d = st s a b c d A B (ad C D) D := by unfold stepA; rw [st_c h, st_d h, set_c h]
theorem stX_da (n : Nat) : stepX (st s a b c d A B C D) d a n = st s a b c d A B C (rl (xr D A) n) := by unfold stepX; rw [st_d h, st_a h, set_d]
theorem stX_bc (n : Nat) : stepX (st s a b c d A B C D) b c n = st s a b c d A (rl (xr B C) n) C D := by unfold stepX; rw [st_b h, st_c h, set_b h]
theorem steps_st : stepX (stepA (stepX (stepA (stepX (stepA (stepX (stepA (st s a b c d A B C D) a b) d a 16) c d) b c 12) a b) d a 8) c d) b c 7 = st s a b c d (qA A B C D) (qB A B C D) (qC A B C D) (qD A B C D) := by
  rw [stA_ab h, stX_da h, stA_cd h, stX_bc h, stA_ab h, stX_da h, stA_cd h, stX_bc h]
  rfl
end
theorem steps_quart (s : List Wd) (hs : s.length = 16) (k : Nat) (hk : k < 8) :
    stepX (stepA (stepX (stepA (stepX (stepA (stepX (stepA s (qi k 0) (qi k 1)) (qi k 3) (qi k 0) 16) (qi k 2) (qi k 3)) (qi k 1) (qi k 2) 12) (qi k 0) (qi k 1)) (qi k 3) (qi k 0) 8) (qi k 2) (qi k 3)) (qi k 1) (qi k 2) 7 = quart s (qi k 0) (qi k 1) (qi k 2) (qi k 3) := by
  have h : Four s.length (qi k 0) (qi k 1) (qi k 2) (qi k 3) := by rw [hs]; exact qi_four k hk
  have e := steps_st h (gw s (qi k 0)) (gw s (qi k 1)) (gw s (qi k 2)) (gw s (qi k 3))
  rw [st_self h] at e
  exact e

end Go.Proofs.YtbheoldakmcppaaGreatDoor

/-! What the document's Block answers. -/
namespace Go.Proofs.YtbheoldakmcppaaGreatDoor
open Go Go.RowKit

theorem refQ (k : Nat) (hk : k < 8) (a b c d : Int) (ha : a = (qi k 0 : Nat)) (hb : b = (qi k 1 : Nat)) (hc : c = (qi k 2 : Nat)) (hd : d = (qi k 3 : Nat)) (g : Nat) (t : TypeId) (s : List Wd) (hs : s.length = 16) (w : World) (hr : Row w g t (ws (twoTo s k))) :
    Calls Tryz.prog 157 #[.pointer (some ⟨g, 0, none⟩), .int .i64 a, .int .i64 b, .int .i64 c, .int .i64 d] w fun e w' => e = .returned (.tuple #[]) ∧ Row w' g t (ws (twoTo s (k + 1))) ∧ Below g w w' := by
  subst ha hb hc hd
  have h := fun j hj => qi_lt k hk j hj
  have hl : (twoTo s k).length = 16 := by rw [twoTo_length]; exact hs
  refine (refQuarter_any g (qi k 0) (qi k 1) (qi k 2) (qi k 3) t (twoTo s k) hl (h 0 (by omega)) (h 1 (by omega)) (h 2 (by omega)) (h 3 (by omega)) w hr).mono ?_
  rintro e w' ⟨rfl, h1, h2⟩
  refine ⟨rfl, ?_, h2 g (Nat.le_refl _)⟩
  rw [twoTo_succ, ← steps_quart _ hl k hk]
  exact h1

set_option maxRecDepth 20000 in
set_option maxHeartbeats 2000000 in
theorem chaRefBlock_any (key : List By) (count : Wd) (nonce : List By) (hk : key.length = 32) (hn : nonce.length = 12) (w : World) :
    Calls Tryz.prog 124 #[.agg (bs key), .int .u32 (u count), .agg (bs nonce)] w fun e w' => e = .returned (.agg (bs (blockL key count nonce))) ∧ Below w.heap.size w w' := by
  have HK : Hid (key.length = 32) := hk
  have HN : Hid (nonce.length = 12) := hn
  clear hk hn
  have q0 : Row (((w.alloc (.cells (bs key) 78)).alloc (.cells (bs nonce) 76)).alloc (.cells (bs (List.replicate 64 0)) 187)) w.heap.size 78 (bs key) := ((Row.new _ _ _).alloc _).alloc _
  have q1 : Row (((w.alloc (.cells (bs key) 78)).alloc (.cells (bs nonce) 76)).alloc (.cells (bs (List.replicate 64 0)) 187)) (w.heap.size + 1) 76 (bs nonce) := (Row.new1 _ _ _ _).alloc _
  have q2 : Row (((w.alloc (.cells (bs key) 78)).alloc (.cells (bs nonce) 76)).alloc (.cells (bs (List.replicate 64 0)) 187)) (w.heap.size + 1 + 1) 187 (bs (List.replicate 64 0)) := Row.new2 _ _ _ _ _
  have hb0 : Below w.heap.size w (((w.alloc (.cells (bs key) 78)).alloc (.cells (bs nonce) 76)).alloc (.cells (bs (List.replicate 64 0)) 187)) := (((Below.refl _ w).alloc (Nat.le_refl _) _).alloc (by simp) _).alloc (by simp; omega) _
  have HS : Hid ((stateL key count nonce).length = 16) := show _ = _ from stateL_length _ _ _
  go_enter Tryz.func124, Tryz.ntmps124
  go_wp2_with (first
    | (with_reducible (show wpList _ _ _ (⟨_, Op.load 78 _, _, _, _, _⟩ :: _) _ _)
       refine load_row rfl 78 _ rfl w.heap.size rfl _ _ q0 32 5 Tryz.underlying78 (by kernel_rfl) (by rw [bs_size, HK.out]) ?_)
    | (with_reducible (show wpList _ _ _ (⟨_, Op.load 76 _, _, _, _, _⟩ :: _) _ _)
       refine load_row rfl 76 _ rfl (w.heap.size + 1) rfl _ _ q1 12 5 Tryz.underlying76 (by kernel_rfl) (by rw [bs_size, HN.out]) ?_))
  refine (refState_any key count nonce HK.out HN.out _).mono ?_
  rintro e1 w1 ⟨rfl, hb1⟩
  have r2 := q2.below hb1 q2.lt
  have hbel : Below w.heap.size w w1 := hb0.trans (hb1.mono hb0.size)
  clear hb1 q0 q1 q2 hb0
  have HBL : Hid (blockL key count nonce = bytesL (sumL16 (roundsL (stateL key count nonce) 10) (stateL key count nonce))) := show _ = _ by rfl
  generalize stateL key count nonce = s at *
  obtain ⟨R, HRR, HBL2⟩ : ∃ R, Hid (∀ j, j = 10 → roundsL s j = R) ∧ Hid (blockL key count nonce = bytesL (sumL16 R s)) := ⟨roundsL s 10, (show ∀ j, j = 10 → roundsL s j = roundsL s 10 from fun j hj => by rw [hj]), HBL⟩
  clear HBL
  have hl2 := r2.lt
  go_wp2_with (first
    | (with_reducible (show wpList _ _ _ (⟨_, Op.alloc 209, _, _, _, _⟩ :: _) _ _)
       refine alloc_row rfl 209 rfl (ws (List.replicate 16 0)) (by kernel_rfl) ?_)
    | (with_reducible (show wpList _ _ _ (⟨_, Op.store 209 _ _, _, _, _, _⟩ :: _) _ _)
       refine store_new (w := w1) (by rfl) 209 _ _ (by rfl) w1.heap.size (ws s) (by rfl) (by rfl) 209 _ (by rfl) 16 (by kernel_rfl) (by rfl) (by rw [ws_size, HS.out]) (ws_one _) ?_)
    | (with_reducible (show wpList _ _ _ (⟨_, Op.load 209 _, _, _, _, _⟩ :: _) _ _)
       refine load_row rfl 209 _ rfl w1.heap.size rfl _ _ (Row.new _ _ _) 16 91 Tryz.underlying209 (by kernel_rfl) (by rw [ws_size, HS.out]) ?_)
    | (with_reducible (show wpList _ _ _ (⟨_, Op.store 209 _ _, _, _, _, _⟩ :: _) _ _)
       refine store_new (w := w1.alloc (.cells (ws s) 209)) (by rfl) 209 _ _ (by rfl) (w1.heap.size + 1) (ws s) (by rfl) (by rfl) 209 _ (by simp) 16 (by kernel_rfl) (by rfl) (by rw [ws_size, HS.out]) (ws_one _) ?_))
  go_loopw [9] (fun i wr => ∃ k : Nat, k ≤ 10 ∧ i = .int .i64 k ∧ Row wr (w.heap.size + 1 + 1) 187 (bs (List.replicate 64 0)) ∧ Row wr w1.heap.size 209 (ws s) ∧ Row wr (w1.heap.size + 1) 209 (ws (roundsL s k)) ∧ Below w.heap.size w wr)
    (fun i _ => 10 - (intOf i).toNat)
  case atStart => exact ⟨0, by omega, rfl, (r2.alloc _).alloc _, (Row.new _ _ _).alloc _, by rw [roundsL_zero]; exact Row.new1 _ _ _ _, (hbel.alloc hbel.size _).alloc (by have := hbel.size; simp; omega) _⟩
  case round =>
    clear r2 hbel
    obtain ⟨k, hk, rfl, r2, r7, r8, hbel⟩ := hrel
    by_cases hlt : k < 10
    · have HL : Hid ((roundsL s k).length = 16) := show _ = _ by rw [roundsL_length]; exact HS.out
      have HE : Hid (roundsL s (k + 1) = twoTo (roundsL s k) 8) := show _ = _ from roundsL_succ s k
      have HT0 : Hid (twoTo (roundsL s k) 0 = roundsL s k) := show _ = _ from twoTo_zero _
      rw [← HT0.out] at r8
      generalize roundsL s k = S at *
      clear HT0
      have hl7 := r7.lt
      have hsz := hbel.size
      go_wp2_with fail
      refine (refQ 0 (by omega) 0 4 8 12 rfl rfl rfl rfl (w1.heap.size + 1) 209 S HL.out wr r8).mono ?_
      rintro ez z0 ⟨rfl, h8, hz⟩
      replace r2 := r2.below hz (by omega)
      replace r7 := r7.below hz (by omega)
      replace hbel := hbel.trans (hz.mono (by omega))
      clear r8
      have r8 := h8
      clear h8 hz
      go_wp2_with fail
      refine (refQ 1 (by omega) 1 5 9 13 rfl rfl rfl rfl (w1.heap.size + 1) 209 S HL.out z0 r8).mono ?_
      rintro ez z1 ⟨rfl, h8, hz⟩
      replace r2 := r2.below hz (by omega)
      replace r7 := r7.below hz (by omega)
      replace hbel := hbel.trans (hz.mono (by omega))
      clear r8
      have r8 := h8
      clear h8 hz
      go_wp2_with fail
      refine (refQ 2 (by omega) 2 6 10 14 rfl rfl rfl rfl (w1.heap.size + 1) 209 S HL.out z1 r8).mono ?_
      rintro ez z2 ⟨rfl, h8, hz⟩
      replace r2 := r2.below hz (by omega)
      replace r7 := r7.below hz (by omega)
      replace hbel := hbel.trans (hz.mono (by omega))
      clear r8
      have r8 := h8
      clear h8 hz
      go_wp2_with fail
      refine (refQ 3 (by omega) 3 7 11 15 rfl rfl rfl rfl (w1.heap.size + 1) 209 S HL.out z2 r8).mono ?_
      rintro ez z3 ⟨rfl, h8, hz⟩
      replace r2 := r2.below hz (by omega)
      replace r7 := r7.below hz (by omega)
      replace hbel := hbel.trans (hz.mono (by omega))
      clear r8
      have r8 := h8
      clear h8 hz
      go_wp2_with fail
      refine (refQ 4 (by omega) 0 5 10 15 rfl rfl rfl rfl (w1.heap.size + 1) 209 S HL.out z3 r8).mono ?_
      rintro ez z4 ⟨rfl, h8, hz⟩
      replace r2 := r2.below hz (by omega)
      replace r7 := r7.below hz (by omega)
      replace hbel := hbel.trans (hz.mono (by omega))
      clear r8
      have r8 := h8
      clear h8 hz
      go_wp2_with fail
      refine (refQ 5 (by omega) 1 6 11 12 rfl rfl rfl rfl (w1.heap.size + 1) 209 S HL.out z4 r8).mono ?_
      rintro ez z5 ⟨rfl, h8, hz⟩
      replace r2 := r2.below hz (by omega)
      replace r7 := r7.below hz (by omega)
      replace hbel := hbel.trans (hz.mono (by omega))
      clear r8
      have r8 := h8
      clear h8 hz
      go_wp2_with fail
      refine (refQ 6 (by omega) 2 7 8 13 rfl rfl rfl rfl (w1.heap.size + 1) 209 S HL.out z5 r8).mono ?_
      rintro ez z6 ⟨rfl, h8, hz⟩
      replace r2 := r2.below hz (by omega)
      replace r7 := r7.below hz (by omega)
      replace hbel := hbel.trans (hz.mono (by omega))
      clear r8
      have r8 := h8
      clear h8 hz
      go_wp2_with fail
      refine (refQ 7 (by omega) 3 4 9 14 rfl rfl rfl rfl (w1.heap.size + 1) 209 S HL.out z6 r8).mono ?_
      rintro ez z7 ⟨rfl, h8, hz⟩
      replace r2 := r2.below hz (by omega)
      replace r7 := r7.below hz (by omega)
      replace hbel := hbel.trans (hz.mono (by omega))
      clear r8
      have r8 := h8
      clear h8 hz
      go_wp2_with fail
      go_roundw
      case rel => exact ⟨k + 1, by omega, by go_num, r2, r7, by rw [HE.out]; exact r8, hbel⟩
      case measure => simp [intOf]; omega
    · rw [HRR.out k (by omega)] at r8
      have hd : decide ((k : Int) < 10) = false := by simp; omega
      have HL : Hid (R.length = 16) := show _ = _ by rw [← HRR.out 10 rfl, roundsL_length]; exact HS.out
      clear HRR
      generalize R = S at *
      generalize wr = W1 at *
      have hl8 := r8.lt
      go_wp2
      go_loopw [11] (fun i wr => ∃ t : Nat, t ≤ 64 ∧ i = .int .i64 t ∧ Row wr (w.heap.size + 1 + 1) 187 (bs (List.replicate 64 0)) ∧ Row wr w1.heap.size 209 (ws s) ∧ Row wr (w1.heap.size + 1) 209 (ws S) ∧ Row wr W1.heap.size 187 (bs ((bytesL (sumL16 S s)).take t ++ List.replicate (64 - t) 0)) ∧ Below w.heap.size w wr)
        (fun i _ => 64 - (intOf i).toNat)
      case atStart => exact ⟨0, by omega, rfl, r2.alloc _, r7.alloc _, r8.alloc _, Row.new _ _ (bs (List.replicate 64 0)), hbel.alloc hbel.size _⟩
      case round =>
        clear r2 r7 r8 hbel
        obtain ⟨t, ht, rfl, r2, r7, r8, r9, hbel⟩ := hrel
        by_cases hlt : t < 64
        · obtain ⟨q, r, hr, rfl⟩ : ∃ q r, r < 4 ∧ t = 4 * q + r := ⟨t / 4, t % 4, by omega, by omega⟩
          have c7 := r7.cellW (j := q) (by rw [HS.out]; omega)
          have c8 := r8.cellW (j := q) (by rw [HL.out]; omega)
          have HSG : Hid (gw (sumL16 S s) q = ad (gw S q) (gw s q)) := show _ = _ from sumL16_gw S s q (by omega)
          have HG := fill_set (bytesL (sumL16 S s)) 0 (4 * q + r) 64 (bytesL_length _) hlt _ (bytesL_get (sumL16 S s) (4 * q + r) hlt)
          rw [show (4 * q + r) / 4 = q by omega, show (4 * q + r) % 4 = r by omega, HSG.out] at HG
          have HG' : Hid (((bytesL (sumL16 S s)).take (4 * q + r) ++ List.replicate (64 - (4 * q + r)) 0).set (4 * q + r) (loOf (ad (gw S q) (gw s q)) r) = (bytesL (sumL16 S s)).take (4 * q + r + 1) ++ List.replicate (64 - (4 * q + r + 1)) 0) := HG
          clear HG
          have ha := wadd (gw S q) (gw s q)
          have HEW : Hid (u (ad (gw S q) (gw s q)) / 2 ^ (8 * r) % 256 = v8 (loOf (ad (gw S q) (gw s q)) r)) := show _ = _ by rw [wsr]; exact v8_loOf _ _
          have hu0 := u_nn (ad (gw S q) (gw s q))
          have hu1 := u_le (ad (gw S q) (gw s q))
          generalize gw S q = X at *
          generalize gw s q = Y at *
          obtain ⟨v, hv⟩ : ∃ v, wr.cell? ⟨W1.heap.size, 4 * q + r, none⟩ = some v := ⟨_, r9.cellB (by simp [bytesL_length]; omega)⟩
          have f9 := r9.frozen (4 * q + r)
          have e1 : (4 * (q : Int) + (r : Int)) / 4 = (q : Int) := by omega
          have e2 : (4 * (q : Int) + (r : Int)) % 4 = (r : Int) := by omega
          have p1 : (0 : Int) ≤ (q : Int) ∧ (q : Int) < 16 := by omega
          have p2 : (0 : Int) ≤ 4 * (q : Int) + (r : Int) ∧ 4 * (q : Int) + (r : Int) < 64 := by omega
          go_wp2
          go_region
          all_goals go_wp2
          all_goals
            go_roundw
            case rel =>
              rw [HEW.out]
              refine ⟨4 * q + r + 1, by omega, by go_num, r2.other (by show w.heap.size + 1 + 1 ≠ W1.heap.size; omega) _, r7.other (by show w1.heap.size ≠ W1.heap.size; omega) _, r8.other (by show w1.heap.size + 1 ≠ W1.heap.size; omega) _, ?_, hbel.drew.setCell (p := ⟨W1.heap.size, 4 * q + r, none⟩) (by show w.heap.size ≤ W1.heap.size; omega) _⟩
              have := r9.set (4 * q + r) (.int .u8 (v8 (loOf (ad X Y) r)))
              rw [bs_set, HG'.out] at this
              exact this
            case measure => simp [intOf]; omega
        · have r10 : Row wr W1.heap.size 187 (bs (bytesL (sumL16 S s))) := by
            have := r9
            rw [show t = 64 by omega, List.take_of_length_le (by rw [bytesL_length]; omega)] at this
            simpa using this
          clear r9
          have hd2 : decide ((t : Int) < 64) = false := by simp; omega
          generalize wr = W2 at *
          go_wp2_with (first
            | (with_reducible (show wpList _ _ _ (⟨_, Op.load 187 _, _, _, _, _⟩ :: _) _ _)
               refine load_row rfl 187 _ rfl W1.heap.size rfl _ _ r10 64 5 Tryz.underlying187 (by kernel_rfl) (by rw [bs_size, bytesL_length]) ?_)
            | (with_reducible (show wpList _ _ _ (⟨_, Op.store 187 _ _, _, _, _, _⟩ :: _) _ _)
               refine store_row rfl 187 _ _ rfl (w.heap.size + 1 + 1) (bs (bytesL (sumL16 S s))) rfl rfl _ _ r2 64 (by kernel_rfl) (by rw [bs_size, List.length_replicate]) (by rw [bs_size, bytesL_length]) (bs_one _) ?_))
          refine bodyPost_ret (result_row rfl _ _ (w.heap.size + 1 + 1) _ _ (r2.put _) 64 5 rfl Tryz.underlying187 (by kernel_rfl) (by rw [bs_size, bytesL_length])) rfl ⟨?_, bSetRow hbel (by omega) _⟩
          rw [HBL2.out]
end Go.Proofs.YtbheoldakmcppaaGreatDoor
