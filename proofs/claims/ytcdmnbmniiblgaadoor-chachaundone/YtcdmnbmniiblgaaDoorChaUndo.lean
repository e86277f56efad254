/-
  The law's quarter round undone, in its place.
-/
import Derived.Test.YtcdmnbmniiblgaaDoorChaWord
import Derived.BigRegion
import Derived.Deep.Cut
import Derived.Deep.CutRange
import Derived.Deep.RegionHeld3
import Derived.Deep.RegionWith
import Derived.Deep.DrawnRows
namespace Go.Proofs.YtcdmnbmniiblgaaDoor
open Go Go.RowKit

/-- One word turned and taken against another; one less another: in their place. -/
def stepU (s : List Wd) (x y : Nat) (n : Nat) : List Wd := s.set x (xr (rl (gw s x) n) (gw s y))
def stepS (s : List Wd) (x y : Nat) : List Wd := s.set x (sb (gw s x) (gw s y))

set_option maxRecDepth 20000 in
set_option maxHeartbeats 400000 in
theorem lawLeft_any (x : Wd) (n : Int) (w : World) (h0 : 1 ≤ n) (h1 : n ≤ 31) :
    Calls Tryd.prog 22 #[.int .u32 (u x), .int .i64 n] w fun e w' => e = .returned (.int .u32 (u (rl x n.toNat))) ∧ ∃ m, w' = w.drewN m := by
  have hx0 := u_nn x
  have hx1 := u_le x
  have hs1 := wsl x n.toNat
  have hs2 := wsr x (32 - n.toNat)
  have hb : bits .or .u32 (u (sl x n.toNat)) (u (sr x (32 - n.toNat))) = u (rl x n.toNat) := bo (sl x n.toNat) (sr x (32 - n.toNat))
  have e1 : (32 - n).toNat = 32 - n.toNat := by omega
  go_enter Tryd.func22, Tryd.ntmps22
  go_wp2
  go_quiet (fail)
  go_wp2
  go_ret
  exact ⟨rfl, _, rfl⟩

set_option maxRecDepth 20000 in
set_option maxHeartbeats 4000000 in
theorem lawUndo_any (g a b c d : Nat) (t : TypeId) (s : List Wd) (hs : s.length = 16) (ha : a < 16) (hb : b < 16) (hc : c < 16) (hd : d < 16) (w : World) (hr : Row w g t (ws s)) :
    Calls Tryd.prog 13 #[.pointer (some ⟨g, 0, none⟩), .int .i64 a, .int .i64 b, .int .i64 c, .int .i64 d] w fun e w' => e = .returned (.tuple #[]) ∧
      Row w' g t (ws (stepS (stepU (stepS (stepU (stepS (stepU (stepS (stepU s b c 25) c d) d a 24) a b) b c 20) c d) d a 16) a b)) ∧ ∀ n, n ≤ g → Below n w w' := by
  have HS0 : Hid (s.length = 16) := hs
  have HR0 : Hid (Row w g t (ws s)) := hr
  have HB0 : Hid (∀ n, n ≤ g → Below n w w) := show ∀ n, n ≤ g → Below n w w from fun n _ => Below.refl n w
  clear hs hr
  obtain ⟨s0, HE0⟩ : ∃ s0, Hid (s0 = s) := ⟨s, rfl⟩
  rw [← HE0.out] at HS0 HR0
  obtain ⟨w0, HW0⟩ : ∃ w0, Hid (w0 = w) := ⟨w, rfl⟩
  have p1 : (0 : Int) ≤ (a : Int) ∧ (a : Int) < 16 := by omega
  have p2 : (0 : Int) ≤ (b : Int) ∧ (b : Int) < 16 := by omega
  have p3 : (0 : Int) ≤ (c : Int) ∧ (c : Int) < 16 := by omega
  have p4 : (0 : Int) ≤ (d : Int) ∧ (d : Int) < 16 := by omega
  go_enter Tryd.func13, Tryd.ntmps13
  go_upto_region 0 with fail
  go_cut [] from 10 to 25 (fun wx => Row wx g t (ws (stepU s0 b c 25)) ∧ ∀ n, n ≤ g → Below n w wx)
  case first =>
    have cx := HR0.out.cellW (j := b) (by rw [HS0.out]; omega)
    have cy := HR0.out.cellW (j := c) (by rw [HS0.out]; omega)
    have fx := HR0.out.frozen b
    have HE : Hid (stepU s0 b c 25 = s0.set b (xr (rl (gw s0 b) 25) (gw s0 c))) := show _ = _ by rfl
    generalize gw s0 b = X at *
    generalize gw s0 c = Y at *
    have hp := bx (rl X 25) Y
    go_region_with (first | (go_at_call 22; refine (lawLeft_any X 25 _ (by omega) (by omega)).mono ?_; rintro e1 wz ⟨rfl, m, hw⟩; rw [hw]; clear hw))
    all_goals
      go_wp2_with fail
      go_meet
      case rel => exact ⟨by rw [HE.out, ← ws_set]; exact (show Row (w.drewN _) g t (ws s0) from HR0.out).set b (.int .u32 (u (xr (rl X 25) Y))), fun n hn => (below_drewN (HB0.out n hn) _).setCell (p := ⟨g, b, none⟩) hn _⟩
  obtain ⟨hr, hb1⟩ := hcut
  have HR1 : Hid (Row wc g t (ws (stepU s0 b c 25))) := hr
  have HB1 : Hid (∀ n, n ≤ g → Below n w wc) := hb1
  have HS1 : Hid ((stepU s0 b c 25).length = 16) := show _ = _ by unfold stepU; rw [List.length_set]; exact HS0.out
  clear hr hb1 HR0 HB0 HS0
  generalize wc = w1 at *
  obtain ⟨s1, HE1⟩ : ∃ zz, Hid (zz = stepU s0 b c 25) := ⟨_, rfl⟩
  rw [← HE1.out] at HR1 HS1
  go_upto_region 1 with fail
  go_cut [] from 26 to 40 (fun wx => Row wx g t (ws (stepS s1 c d)) ∧ ∀ n, n ≤ g → Below n w wx)
  case first =>
    have cx := HR1.out.cellW (j := c) (by rw [HS1.out]; omega)
    have cy := HR1.out.cellW (j := d) (by rw [HS1.out]; omega)
    have fx := HR1.out.frozen c
    have HE : Hid (stepS s1 c d = s1.set c (sb (gw s1 c) (gw s1 d))) := show _ = _ by rfl
    generalize gw s1 c = X at *
    generalize gw s1 d = Y at *
    have hp := wsub X Y
    go_region
    all_goals
      go_wp2_with fail
      go_meet
      case rel => exact ⟨by rw [HE.out, ← ws_set]; exact (HR1.out.set c (.int .u32 (u (sb X Y)))).drew, fun n hn => ((HB1.out n hn).setCell (p := ⟨g, c, none⟩) hn _).drew⟩
  obtain ⟨hr, hb2⟩ := hcut
  have HR2 : Hid (Row wc g t (ws (stepS s1 c d))) := hr
  have HB2 : Hid (∀ n, n ≤ g → Below n w wc) := hb2
  have HS2 : Hid ((stepS s1 c d).length = 16) := show _ = _ by unfold stepS; rw [List.length_set]; exact HS1.out
  clear hr hb2 HR1 HB1 HS1
  generalize wc = w2 at *
  obtain ⟨s2, HE2⟩ : ∃ zz, Hid (zz = stepS s1 c d) := ⟨_, rfl⟩
  rw [← HE2.out] at HR2 HS2
  go_upto_region 2 with fail
  go_cut [] from 41 to 56 (fun wx => Row wx g t (ws (stepU s2 d a 24)) ∧ ∀ n, n ≤ g → Below n w wx)
  case first =>
    have cx := HR2.out.cellW (j := d) (by rw [HS2.out]; omega)
    have cy := HR2.out.cellW (j := a) (by rw [HS2.out]; omega)
    have fx := HR2.out.frozen d
    have HE : Hid (stepU s2 d a 24 = s2.set d (xr (rl (gw s2 d) 24) (gw s2 a))) := show _ = _ by rfl
    generalize gw s2 d = X at *
    generalize gw s2 a = Y at *
    have hp := bx (rl X 24) Y
    go_region_with (first | (go_at_call 22; refine (lawLeft_any X 24 _ (by omega) (by omega)).mono ?_; rintro e1 wz ⟨rfl, m, hw⟩; rw [hw]; clear hw))
    all_goals
      go_wp2_with fail
      go_meet
      case rel => exact ⟨by rw [HE.out, ← ws_set]; exact (show Row (w2.drewN _) g t (ws s2) from HR2.out).set d (.int .u32 (u (xr (rl X 24) Y))), fun n hn => (below_drewN (HB2.out n hn) _).setCell (p := ⟨g, d, none⟩) hn _⟩
  obtain ⟨hr, hb3⟩ := hcut
  have HR3 : Hid (Row wc g t (ws (stepU s2 d a 24))) := hr
  have HB3 : Hid (∀ n, n ≤ g → Below n w wc) := hb3
  have HS3 : Hid ((stepU s2 d a 24).length = 16) := show _ = _ by unfold stepU; rw [List.length_set]; exact HS2.out
  clear hr hb3 HR2 HB2 HS2
  generalize wc = w3 at *
  obtain ⟨s3, HE3⟩ : ∃ zz, Hid (zz = stepU s2 d a 24) := ⟨_, rfl⟩
  rw [← HE3.out] at HR3 HS3
  go_upto_region 3 with fail
  go_cut [] from 57 to 71 (fun wx => Row wx g t (ws (stepS s3 a b)) ∧ ∀ n, n ≤ g → Below n w wx)
  case first =>
    have cx := HR3.out.cellW (j := a) (by rw [HS3.out]; omega)
    have cy := HR3.out.cellW (j := b) (by rw [HS3.out]; omega)
    have fx := HR3.out.frozen a
    have HE : Hid (stepS s3 a b = s3.set a (sb (gw s3 a) (gw s3 b))) := show _ = _ by rfl
    generalize gw s3 a = X at *
    generalize gw s3 b = Y at *
    have hp := wsub X Y
    go_region
    all_goals
      go_wp2_with fail
      go_meet
      case rel => exact ⟨by rw [HE.out, ← ws_set]; exact (HR3.out.set a (.int .u32 (u (sb X Y)))).drew, fun n hn => ((HB3.out n hn).setCell (p := ⟨g, a, none⟩) hn _).drew⟩
  obtain ⟨hr, hb4⟩ := hcut
  have HR4 : Hid (Row wc g t (ws (stepS s3 a b))) := hr
  have HB4 : Hid (∀ n, n ≤ g → Below n w wc) := hb4
  have HS4 : Hid ((stepS s3 a b).length = 16) := show _ = _ by unfold stepS; rw [List.length_set]; exact HS3.out
  clear hr hb4 HR3 HB3 HS3
  generalize wc = w4 at *
  obtain ⟨s4, HE4⟩ : ∃ zz, Hid (zz = stepS s3 a b) := ⟨_, rfl⟩
  rw [← HE4.out] at HR4 HS4
  go_upto_region 4 with fail
  go_cut [] from 72 to 87 (fun wx => Row wx g t (ws (stepU s4 b c 20)) ∧ ∀ n, n ≤ g → Below n w wx)
  case first =>
    have cx := HR4.out.cellW (j := b) (by rw [HS4.out]; omega)
    have cy := HR4.out.cellW (j := c) (by rw [HS4.out]; omega)
    have fx := HR4.out.frozen b
    have HE : Hid (stepU s4 b c 20 = s4.set b (xr (rl (gw s4 b) 20) (gw s4 c))) := show _ = _ by rfl
    generalize gw s4 b = X at *
    generalize gw s4 c = Y at *
    have hp := bx (rl X 20) Y
    go_region_with (first | (go_at_call 22; refine (lawLeft_any X 20 _ (by omega) (by omega)).mono ?_; rintro e1 wz ⟨rfl, m, hw⟩; rw [hw]; clear hw))
    all_goals
      go_wp2_with fail
      go_meet
      case rel => exact ⟨by rw [HE.out, ← ws_set]; exact (show Row (w4.drewN _) g t (ws s4) from HR4.out).set b (.int .u32 (u (xr (rl X 20) Y))), fun n hn => (below_drewN (HB4.out n hn) _).setCell (p := ⟨g, b, none⟩) hn _⟩
  obtain ⟨hr, hb5⟩ := hcut
  have HR5 : Hid (Row wc g t (ws (stepU s4 b c 20))) := hr
  have HB5 : Hid (∀ n, n ≤ g → Below n w wc) := hb5
  have HS5 : Hid ((stepU s4 b c 20).length = 16) := show _ = _ by unfold stepU; rw [List.length_set]; exact HS4.out
  clear hr hb5 HR4 HB4 HS4
  generalize wc = w5 at *
  obtain ⟨s5, HE5⟩ : ∃ zz, Hid (zz = stepU s4 b c 20) := ⟨_, rfl⟩
  rw [← HE5.out] at HR5 HS5
  go_upto_region 5 with fail
  go_cut [] from 88 to 102 (fun wx => Row wx g t (ws (stepS s5 c d)) ∧ ∀ n, n ≤ g → Below n w wx)
  case first =>
    have cx := HR5.out.cellW (j := c) (by rw [HS5.out]; omega)
    have cy := HR5.out.cellW (j := d) (by rw [HS5.out]; omega)
    have fx := HR5.out.frozen c
    have HE : Hid (stepS s5 c d = s5.set c (sb (gw s5 c) (gw s5 d))) := show _ = _ by rfl
    generalize gw s5 c = X at *
    generalize gw s5 d = Y at *
    have hp := wsub X Y
    go_region
    all_goals
      go_wp2_with fail
      go_meet
      case rel => exact ⟨by rw [HE.out, ← ws_set]; exact (HR5.out.set c (.int .u32 (u (sb X Y)))).drew, fun n hn => ((HB5.out n hn).setCell (p := ⟨g, c, none⟩) hn _).drew⟩
  obtain ⟨hr, hb6⟩ := hcut
  have HR6 : Hid (Row wc g t (ws (stepS s5 c d))) := hr
  have HB6 : Hid (∀ n, n ≤ g → Below n w wc) := hb6
  have HS6 : Hid ((stepS s5 c d).length = 16) := show _ = _ by unfold stepS; rw [List.length_set]; exact HS5.out
  clear hr hb6 HR5 HB5 HS5
  generalize wc = w6 at *
  obtain ⟨s6, HE6⟩ : ∃ zz, Hid (zz = stepS s5 c d) := ⟨_, rfl⟩
  rw [← HE6.out] at HR6 HS6
  go_upto_region 6 with fail
  go_cut [] from 103 to 118 (fun wx => Row wx g t (ws (stepU s6 d a 16)) ∧ ∀ n, n ≤ g → Below n w wx)
  case first =>
    have cx := HR6.out.cellW (j := d) (by rw [HS6.out]; omega)
    have cy := HR6.out.cellW (j := a) (by rw [HS6.out]; omega)
    have fx := HR6.out.frozen d
    have HE : Hid (stepU s6 d a 16 = s6.set d (xr (rl (gw s6 d) 16) (gw s6 a))) := show _ = _ by rfl
    generalize gw s6 d = X at *
    generalize gw s6 a = Y at *
    have hp := bx (rl X 16) Y
    go_region_with (first | (go_at_call 22; refine (lawLeft_any X 16 _ (by omega) (by omega)).mono ?_; rintro e1 wz ⟨rfl, m, hw⟩; rw [hw]; clear hw))
    all_goals
      go_wp2_with fail
      go_meet
      case rel => exact ⟨by rw [HE.out, ← ws_set]; exact (show Row (w6.drewN _) g t (ws s6) from HR6.out).set d (.int .u32 (u (xr (rl X 16) Y))), fun n hn => (below_drewN (HB6.out n hn) _).setCell (p := ⟨g, d, none⟩) hn _⟩
  obtain ⟨hr, hb7⟩ := hcut
  have HR7 : Hid (Row wc g t (ws (stepU s6 d a 16))) := hr
  have HB7 : Hid (∀ n, n ≤ g → Below n w wc) := hb7
  have HS7 : Hid ((stepU s6 d a 16).length = 16) := show _ = _ by unfold stepU; rw [List.length_set]; exact HS6.out
  clear hr hb7 HR6 HB6 HS6
  generalize wc = w7 at *
  obtain ⟨s7, HE7⟩ : ∃ zz, Hid (zz = stepU s6 d a 16) := ⟨_, rfl⟩
  rw [← HE7.out] at HR7 HS7
  have cx := HR7.out.cellW (j := a) (by rw [HS7.out]; omega)
  have cy := HR7.out.cellW (j := b) (by rw [HS7.out]; omega)
  have fx := HR7.out.frozen a
  have HE : Hid (stepS s7 a b = s7.set a (sb (gw s7 a) (gw s7 b))) := show _ = _ by rfl
  generalize gw s7 a = X at *
  generalize gw s7 b = Y at *
  have hp := wsub X Y
  go_wp2_with fail
  go_region
  all_goals
    go_wp2_with fail
    go_end0
    refine ⟨rfl, ?_, fun n hn => ((HB7.out n hn).setCell (p := ⟨g, a, none⟩) hn _).drew⟩
    rw [← HE0.out, ← HE1.out, ← HE2.out, ← HE3.out, ← HE4.out, ← HE5.out, ← HE6.out, ← HE7.out, HE.out, ← ws_set]
    exact (HR7.out.set a (.int .u32 (u (sb X Y)))).drew
end Go.Proofs.YtcdmnbmniiblgaaDoor
