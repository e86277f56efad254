/-
  The document's quarter round, in its place.
-/
import Derived.Test.YtlicflmpakkccaaGreatDoorGvChaWord
import Derived.Test.YtlicflmpakkccaaGreatDoorGv15
import Derived.BigRegion
import Derived.Deep.Cut
import Derived.Deep.CutRange
import Derived.Deep.RegionHeld3
import Derived.Deep.RegionWith
import Derived.Deep.DrawnRows
namespace Go.Proofs.YtlicflmpakkccaaGreatDoor
open Go Go.RowKit

/-- One word and another added; one taken against another and turned: in their place. -/
def stepA (s : List Wd) (x y : Nat) : List Wd := s.set x (ad (gw s x) (gw s y))
def stepX (s : List Wd) (x y : Nat) (n : Nat) : List Wd := s.set x (rl (xr (gw s x) (gw s y)) n)

set_option maxRecDepth 20000 in
set_option maxHeartbeats 4000000 in
theorem refQuarter_any (g a b c d : Nat) (t : TypeId) (s : List Wd) (hs : s.length = 16) (ha : a < 16) (hb : b < 16) (hc : c < 16) (hd : d < 16) (w : World) (hr : Row w g t (ws s)) :
    Calls Tryz.prog 118 #[.pointer (some ⟨g, 0, none⟩), .int .i64 a, .int .i64 b, .int .i64 c, .int .i64 d] w fun e w' => e = .returned (.tuple #[]) ∧
      Row w' g t (ws (stepX (stepA (stepX (stepA (stepX (stepA (stepX (stepA s a b) d a 16) c d) b c 12) a b) d a 8) c d) b c 7)) ∧ ∀ n, n ≤ g → Below n w w' := by
  have HS0 : Hid (s.length = 16) := hs
  have HR0 : Hid (Row w g t (ws s)) := hr
  have HB0 : Hid (∀ n, n ≤ g → Below n w w) := show ∀ n, n ≤ g → Below n w w from fun n _ => Below.refl n w
  clear hs hr
  obtain ⟨s0, HE0⟩ : ∃ s0, Hid (s0 = s) := ⟨s, rfl⟩
  rw [← HE0.out] at HS0 HR0
  obtain ⟨w0, HW0⟩ : ∃ w0, Hid (w0 = w) := ⟨w, rfl⟩
  have p1 : (0 : Int) ≤ (a : Int) ∧ (a : Int) < 16 := by omega
  have p2 : (0 : Int) ≤ (b : Int) ∧ (b : Int) < 16 := by omega
  have p3 : (0 : Int) ≤ (c : Int) ∧ (c : Int) < 16 := by omega
  have p4 : (0 : Int) ≤ (d : Int) ∧ (d : Int) < 16 := by omega
  go_enter Tryz.func118, Tryz.ntmps118
  go_upto_region 0 with fail
  go_cut [] from 10 to 24 (fun wx => Row wx g t (ws (stepA s0 a b)) ∧ ∀ n, n ≤ g → Below n w wx)
  case first =>
    have cx := HR0.out.cellW (j := a) (by rw [HS0.out]; omega)
    have cy := HR0.out.cellW (j := b) (by rw [HS0.out]; omega)
    have fx := HR0.out.frozen a
    have HE : Hid (stepA s0 a b = s0.set a (ad (gw s0 a) (gw s0 b))) := show _ = _ by rfl
    generalize gw s0 a = X at *
    generalize gw s0 b = Y at *
    have hp := wadd X Y
    go_region
    all_goals
      go_wp2_with fail
      go_meet
      case rel => exact ⟨by rw [HE.out, ← ws_set]; exact (HR0.out.set a (.int .u32 (u (ad X Y)))).drew, fun n hn => ((HB0.out n hn).setCell (p := ⟨g, a, none⟩) hn _).drew⟩
  obtain ⟨hr, hb1⟩ := hcut
  have HR1 : Hid (Row wc g t (ws (stepA s0 a b))) := hr
  have HB1 : Hid (∀ n, n ≤ g → Below n w wc) := hb1
  have HS1 : Hid ((stepA s0 a b).length = 16) := show _ = _ by unfold stepA; rw [List.length_set]; exact HS0.out
  clear hr hb1 HR0 HB0 HS0
  generalize wc = w1 at *
  obtain ⟨s1, HE1⟩ : ∃ zz, Hid (zz = stepA s0 a b) := ⟨_, rfl⟩
  rw [← HE1.out] at HR1 HS1
  go_upto_region 1 with fail
  go_cut [] from 25 to 40 (fun wx => Row wx g t (ws (stepX s1 d a 16)) ∧ ∀ n, n ≤ g → Below n w wx)
  case first =>
    have cx := HR1.out.cellW (j := d) (by rw [HS1.out]; omega)
    have cy := HR1.out.cellW (j := a) (by rw [HS1.out]; omega)
    have fx := HR1.out.frozen d
    have HE : Hid (stepX s1 d a 16 = s1.set d (rl (xr (gw s1 d) (gw s1 a)) 16)) := show _ = _ by rfl
    generalize gw s1 d = X at *
    generalize gw s1 a = Y at *
    have hp := bx X Y
    go_region_with (first | (go_at_call 140; refine (chaRefLeft_any (xr X Y) 16 _ (by omega) (by omega)).mono ?_; rintro e1 wz ⟨rfl, m, hw⟩; rw [hw]; clear hw))
    all_goals
      go_wp2_with fail
      go_meet
      case rel => exact ⟨by rw [HE.out, ← ws_set]; exact (show Row (w1.drewN _) g t (ws s1) from HR1.out).set d (.int .u32 (u (rl (xr X Y) 16))), fun n hn => (below_drewN (HB1.out n hn) _).setCell (p := ⟨g, d, none⟩) hn _⟩
  obtain ⟨hr, hb2⟩ := hcut
  have HR2 : Hid (Row wc g t (ws (stepX s1 d a 16))) := hr
  have HB2 : Hid (∀ n, n ≤ g → Below n w wc) := hb2
  have HS2 : Hid ((stepX s1 d a 16).length = 16) := show _ = _ by unfold stepX; rw [List.length_set]; exact HS1.out
  clear hr hb2 HR1 HB1 HS1
  generalize wc = w2 at *
  obtain ⟨s2, HE2⟩ : ∃ zz, Hid (zz = stepX s1 d a 16) := ⟨_, rfl⟩
  rw [← HE2.out] at HR2 HS2
  go_upto_region 2 with fail
  go_cut [] from 41 to 55 (fun wx => Row wx g t (ws (stepA s2 c d)) ∧ ∀ n, n ≤ g → Below n w wx)
  case first =>
    have cx := HR2.out.cellW (j := c) (by rw [HS2.out]; omega)
    have cy := HR2.out.cellW (j := d) (by rw [HS2.out]; omega)
    have fx := HR2.out.frozen c
    have HE : Hid (stepA s2 c d = s2.set c (ad (gw s2 c) (gw s2 d))) := show _ = _ by rfl
    generalize gw s2 c = X at *
    generalize gw s2 d = Y at *
    have hp := wadd X Y
    go_region
    all_goals
      go_wp2_with fail
      go_meet
      case rel => exact ⟨by rw [HE.out, ← ws_set]; exact (HR2.out.set c (.int .u32 (u (ad X Y)))).drew, fun n hn => ((HB2.out n hn).setCell (p := ⟨g, c, none⟩) hn _).drew⟩
  obtain ⟨hr, hb3⟩ := hcut
  have HR3 : Hid (Row wc g t (ws (stepA s2 c d))) := hr
  have HB3 : Hid (∀ n, n ≤ g → Below n w wc) := hb3
  have HS3 : Hid ((stepA s2 c d).length = 16) := show _ = _ by unfold stepA; rw [List.length_set]; exact HS2.out
  clear hr hb3 HR2 HB2 HS2
  generalize wc = w3 at *
  obtain ⟨s3, HE3⟩ : ∃ zz, Hid (zz = stepA s2 c d) := ⟨_, rfl⟩
  rw [← HE3.out] at HR3 HS3
  go_upto_region 3 with fail
  go_cut [] from 56 to 71 (fun wx => Row wx g t (ws (stepX s3 b c 12)) ∧ ∀ n, n ≤ g → Below n w wx)
  case first =>
    have cx := HR3.out.cellW (j := b) (by rw [HS3.out]; omega)
    have cy := HR3.out.cellW (j := c) (by rw [HS3.out]; omega)
    have fx := HR3.out.frozen b
    have HE : Hid (stepX s3 b c 12 = s3.set b (rl (xr (gw s3 b) (gw s3 c)) 12)) := show _ = _ by rfl
    generalize gw s3 b = X at *
    generalize gw s3 c = Y at *
    have hp := bx X Y
    go_region_with (first | (go_at_call 140; refine (chaRefLeft_any (xr X Y) 12 _ (by omega) (by omega)).mono ?_; rintro e1 wz ⟨rfl, m, hw⟩; rw [hw]; clear hw))
    all_goals
      go_wp2_with fail
      go_meet
      case rel => exact ⟨by rw [HE.out, ← ws_set]; exact (show Row (w3.drewN _) g t (ws s3) from HR3.out).set b (.int .u32 (u (rl (xr X Y) 12))), fun n hn => (below_drewN (HB3.out n hn) _).setCell (p := ⟨g, b, none⟩) hn _⟩
  obtain ⟨hr, hb4⟩ := hcut
  have HR4 : Hid (Row wc g t (ws (stepX s3 b c 12))) := hr
  have HB4 : Hid (∀ n, n ≤ g → Below n w wc) := hb4
  have HS4 : Hid ((stepX s3 b c 12).length = 16) := show _ = _ by unfold stepX; rw [List.length_set]; exact HS3.out
  clear hr hb4 HR3 HB3 HS3
  generalize wc = w4 at *
  obtain ⟨s4, HE4⟩ : ∃ zz, Hid (zz = stepX s3 b c 12) := ⟨_, rfl⟩
  rw [← HE4.out] at HR4 HS4
  go_upto_region 4 with fail
  go_cut [] from 72 to 86 (fun wx => Row wx g t (ws (stepA s4 a b)) ∧ ∀ n, n ≤ g → Below n w wx)
  case first =>
    have cx := HR4.out.cellW (j := a) (by rw [HS4.out]; omega)
    have cy := HR4.out.cellW (j := b) (by rw [HS4.out]; omega)
    have fx := HR4.out.frozen a
    have HE : Hid (stepA s4 a b = s4.set a (ad (gw s4 a) (gw s4 b))) := show _ = _ by rfl
    generalize gw s4 a = X at *
    generalize gw s4 b = Y at *
    have hp := wadd X Y
    go_region
    all_goals
      go_wp2_with fail
      go_meet
      case rel => exact ⟨by rw [HE.out, ← ws_set]; exact (HR4.out.set a (.int .u32 (u (ad X Y)))).drew, fun n hn => ((HB4.out n hn).setCell (p := ⟨g, a, none⟩) hn _).drew⟩
  obtain ⟨hr, hb5⟩ := hcut
  have HR5 : Hid (Row wc g t (ws (stepA s4 a b))) := hr
  have HB5 : Hid (∀ n, n ≤ g → Below n w wc) := hb5
  have HS5 : Hid ((stepA s4 a b).length = 16) := show _ = _ by unfold stepA; rw [List.length_set]; exact HS4.out
  clear hr hb5 HR4 HB4 HS4
  generalize wc = w5 at *
  obtain ⟨s5, HE5⟩ : ∃ zz, Hid (zz = stepA s4 a b) := ⟨_, rfl⟩
  rw [← HE5.out] at HR5 HS5
  go_upto_region 5 with fail
  go_cut [] from 87 to 102 (fun wx => Row wx g t (ws (stepX s5 d a 8)) ∧ ∀ n, n ≤ g → Below n w wx)
  case first =>
    have cx := HR5.out.cellW (j := d) (by rw [HS5.out]; omega)
    have cy := HR5.out.cellW (j := a) (by rw [HS5.out]; omega)
    have fx := HR5.out.frozen d
    have HE : Hid (stepX s5 d a 8 = s5.set d (rl (xr (gw s5 d) (gw s5 a)) 8)) := show _ = _ by rfl
    generalize gw s5 d = X at *
    generalize gw s5 a = Y at *
    have hp := bx X Y
    go_region_with (first | (go_at_call 140; refine (chaRefLeft_any (xr X Y) 8 _ (by omega) (by omega)).mono ?_; rintro e1 wz ⟨rfl, m, hw⟩; rw [hw]; clear hw))
    all_goals
      go_wp2_with fail
      go_meet
      case rel => exact ⟨by rw [HE.out, ← ws_set]; exact (show Row (w5.drewN _) g t (ws s5) from HR5.out).set d (.int .u32 (u (rl (xr X Y) 8))), fun n hn => (below_drewN (HB5.out n hn) _).setCell (p := ⟨g, d, none⟩) hn _⟩
  obtain ⟨hr, hb6⟩ := hcut
  have HR6 : Hid (Row wc g t (ws (stepX s5 d a 8))) := hr
  have HB6 : Hid (∀ n, n ≤ g → Below n w wc) := hb6
  have HS6 : Hid ((stepX s5 d a 8).length = 16) := show _ = _ by unfold stepX; rw [List.length_set]; exact HS5.out
  clear hr hb6 HR5 HB5 HS5
  generalize wc = w6 at *
  obtain ⟨s6, HE6⟩ : ∃ zz, Hid (zz = stepX s5 d a 8) := ⟨_, rfl⟩
  rw [← HE6.out] at HR6 HS6
  go_upto_region 6 with fail
  go_cut [] from 103 to 117 (fun wx => Row wx g t (ws (stepA s6 c d)) ∧ ∀ n, n ≤ g → Below n w wx)
  case first =>
    have cx := HR6.out.cellW (j := c) (by rw [HS6.out]; omega)
    have cy := HR6.out.cellW (j := d) (by rw [HS6.out]; omega)
    have fx := HR6.out.frozen c
    have HE : Hid (stepA s6 c d = s6.set c (ad (gw s6 c) (gw s6 d))) := show _ = _ by rfl
    generalize gw s6 c = X at *
    generalize gw s6 d = Y at *
    have hp := wadd X Y
    go_region
    all_goals
      go_wp2_with fail
      go_meet
      case rel => exact ⟨by rw [HE.out, ← ws_set]; exact (HR6.out.set c (.int .u32 (u (ad X Y)))).drew, fun n hn => ((HB6.out n hn).setCell (p := ⟨g, c, none⟩) hn _).drew⟩
  obtain ⟨hr, hb7⟩ := hcut
  have HR7 : Hid (Row wc g t (ws (stepA s6 c d))) := hr
  have HB7 : Hid (∀ n, n ≤ g → Below n w wc) := hb7
  have HS7 : Hid ((stepA s6 c d).length = 16) := show _ = _ by unfold stepA; rw [List.length_set]; exact HS6.out
  clear hr hb7 HR6 HB6 HS6
  generalize wc = w7 at *
  obtain ⟨s7, HE7⟩ : ∃ zz, Hid (zz = stepA s6 c d) := ⟨_, rfl⟩
  rw [← HE7.out] at HR7 HS7
  have cx := HR7.out.cellW (j := b) (by rw [HS7.out]; omega)
  have cy := HR7.out.cellW (j := c) (by rw [HS7.out]; omega)
  have fx := HR7.out.frozen b
  have HE : Hid (stepX s7 b c 7 = s7.set b (rl (xr (gw s7 b) (gw s7 c)) 7)) := show _ = _ by rfl
  generalize gw s7 b = X at *
  generalize gw s7 c = Y at *
  have hp := bx X Y
  go_wp2_with fail
  go_region_with (first | (go_at_call 140; refine (chaRefLeft_any (xr X Y) 7 _ (by omega) (by omega)).mono ?_; rintro e1 wz ⟨rfl, m, hw⟩; rw [hw]; clear hw))
  all_goals
    go_wp2_with fail
    go_end0
    refine ⟨rfl, ?_, fun n hn => (below_drewN (HB7.out n hn) _).setCell (p := ⟨g, b, none⟩) hn _⟩
    rw [← HE0.out, ← HE1.out, ← HE2.out, ← HE3.out, ← HE4.out, ← HE5.out, ← HE6.out, ← HE7.out, HE.out, ← ws_set]
    exact (show Row (w7.drewN _) g t (ws s7) from HR7.out).set b (.int .u32 (u (rl (xr X Y) 7)))
end Go.Proofs.YtlicflmpakkccaaGreatDoor
