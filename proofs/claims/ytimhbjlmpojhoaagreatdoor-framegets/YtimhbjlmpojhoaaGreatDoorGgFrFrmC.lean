/-
  The document's reader: frame.
-/
import Derived.Test.YtimhbjlmpojhoaaGreatDoorGg16
namespace Go.Proofs.YtimhbjlmpojhoaaGreatDoor
open Go Go.RowKit

set_option maxRecDepth 20000 in
set_option maxHeartbeats 2000000 in
theorem frameN {base g : Nat} {b : List By} {w : World} (N : Nat) (hne : ∀ c ∈ ([0, 1, 2, 4, 5, 6, 8, 9, 10, 11, 12, 13, 14, 15, 16, 17, 18, 19, 20, 21, 28, 29, 30] : List Nat), N ≠ c) (h : Rr base g b 0 w) (hb : base ≤ w.heap.size) (hk : (rdN b 0).1 = N) :
    Calls Tryz.prog 71 #[.pointer (some ⟨g, 0, none⟩)] w fun x w' => FrOut base g Fr.frameR b 0 w x w' := by
  have HB := veil (Fr.body_none hne)
  obtain ⟨W0, hW0⟩ : ∃ W, W = w.alloc (.cells (frC8 0 0 0 0 0 false (.slice none 0 0) (.slice none 0 0)) 37) := ⟨_, rfl⟩
  have r0 : Row W0 w.heap.size 37 (frC8 0 0 0 0 0 false (.slice none 0 0) (.slice none 0 0)) := by rw [hW0]; exact Row.new _ _ _
  have g0 : w.grownBy W0 (some g) := by rw [hW0]; exact grown_alloc _ _
  have KI := veil (kindC (show Rr base g b 0 W0 by rw [hW0]; exact h.alloc hb _))
  have hlt := h.lt
  have HLT := veil hlt
  have HRG := veil (show w.heap.size ≠ g by omega)
  have HRW := veil (Nat.le_refl w.heap.size)
  have HRB := veil hb
  have G0 := veil g0
  have R0 := veil r0
  have HK := veil hk
  clear r0 g0 h hb hlt hk
  go_enter Tryz.func71, Tryz.ntmps71
  go_wp2_with fail
  show Calls _ _ _ (w.alloc (.cells (frC8 0 0 0 0 0 false (.slice none 0 0) (.slice none 0 0)) 37)) _
  rw [← hW0]
  clear hW0
  refine KI.out.mono ?_
  rintro xx w1 ⟨nk, b0, e0, rfl, hnk, hs, hr, hg⟩
  obtain rfl : N = nk := by rw [hnk, HK.out]
  have S0 := veil hs
  have gg := G0.out.trans hg
  have hsz := gg.size
  have hlt := HLT.out
  have HFW := veil hsz
  have HFB := veil (show base ≤ w1.heap.size by have := HRB.out; omega)
  have hrw1 := (Row.grown R0.out hg HRG.out).lt
  have HRF := veil (show w.heap.size ≠ w1.heap.size by omega)
  have HFG := veil (show w1.heap.size ≠ g by omega)
  have hrf : w.heap.size ≠ w1.heap.size := HRF.out
  have RF1 : Hid (Row (w1.alloc (.cells #[.int .u8 0, .int .u64 0, .int .u64 0, .int .u64 0, .int .u64 0, .bool false, .slice none 0 0, .slice none 0 0] 37)) w1.heap.size 37 (frC8 0 0 0 0 0 false (.slice none 0 0) (.slice none 0 0))) := Row.new _ _ _
  have RR1 : Hid (Row (w1.alloc (.cells #[.int .u8 0, .int .u64 0, .int .u64 0, .int .u64 0, .int .u64 0, .bool false, .slice none 0 0, .slice none 0 0] 37)) w.heap.size 37 (frC8 0 0 0 0 0 false (.slice none 0 0) (.slice none 0 0))) := (Row.grown R0.out hg HRG.out).alloc _
  have GG1 : Hid (w.grownBy (w1.alloc (.cells #[.int .u8 0, .int .u64 0, .int .u64 0, .int .u64 0, .int .u64 0, .bool false, .slice none 0 0, .slice none 0 0] 37)) (some g)) := gg.trans (grown_alloc _ _)
  have RD1 : Hid (Rr base g b0 e0 (w1.alloc (.cells #[.int .u8 0, .int .u64 0, .int .u64 0, .int .u64 0, .int .u64 0, .bool false, .slice none 0 0, .slice none 0 0] 37))) := hr.alloc HFB.out _
  clear hs hr hg gg hsz hlt hrw1 hnk KI R0 G0
  have f0 : ((N : Int) == 0) = false := by simp; have := hne 0 (by decide); omega
  have f1 : ((N : Int) == 1) = false := by simp; have := hne 1 (by decide); omega
  have f2 : ((N : Int) == 2) = false := by simp; have := hne 2 (by decide); omega
  have f4 : ((N : Int) == 4) = false := by simp; have := hne 4 (by decide); omega
  have f5 : ((N : Int) == 5) = false := by simp; have := hne 5 (by decide); omega
  have f6 : ((N : Int) == 6) = false := by simp; have := hne 6 (by decide); omega
  have f8 : ((N : Int) == 8) = false := by simp; have := hne 8 (by decide); omega
  have f9 : ((N : Int) == 9) = false := by simp; have := hne 9 (by decide); omega
  have f10 : ((N : Int) == 10) = false := by simp; have := hne 10 (by decide); omega
  have f11 : ((N : Int) == 11) = false := by simp; have := hne 11 (by decide); omega
  have f12 : ((N : Int) == 12) = false := by simp; have := hne 12 (by decide); omega
  have f13 : ((N : Int) == 13) = false := by simp; have := hne 13 (by decide); omega
  have f14 : ((N : Int) == 14) = false := by simp; have := hne 14 (by decide); omega
  have f15 : ((N : Int) == 15) = false := by simp; have := hne 15 (by decide); omega
  have f16 : ((N : Int) == 16) = false := by simp; have := hne 16 (by decide); omega
  have f17 : ((N : Int) == 17) = false := by simp; have := hne 17 (by decide); omega
  have f18 : ((N : Int) == 18) = false := by simp; have := hne 18 (by decide); omega
  have f19 : ((N : Int) == 19) = false := by simp; have := hne 19 (by decide); omega
  have f20 : ((N : Int) == 20) = false := by simp; have := hne 20 (by decide); omega
  have f21 : ((N : Int) == 21) = false := by simp; have := hne 21 (by decide); omega
  have f28 : ((N : Int) == 28) = false := by simp; have := hne 28 (by decide); omega
  have f29 : ((N : Int) == 29) = false := by simp; have := hne 29 (by decide); omega
  have f30 : ((N : Int) == 30) = false := by simp; have := hne 30 (by decide); omega
  clear hne
  obtain ⟨c0, c1, c2, c3, c4, c5, c6, c7⟩ := frC8_cells RF1.out
  obtain ⟨y0, y1, y2, y3, y4, y5, y6, y7⟩ := frC8_cells RR1.out
  obtain ⟨z0, z1, z2, z3, z4, z5, z6, z7⟩ := frC8_fz RF1.out
  obtain ⟨x0, x1, x2, x3, x4, x5, x6, x7⟩ := frC8_fz RR1.out
  go_wp2_with fail
  refine (wrongC RD1.out true 5).mono ?_
  rintro xx w2 ⟨⟨vv, rfl⟩, hr, hg⟩
  have RF2 := veil (Row.grown (RF1.out : Row _ w1.heap.size 37 (frC8 0 0 0 0 0 false (.slice none 0 0) (.slice none 0 0))) hg HFG.out)
  have RR2 := veil (Row.grown RR1.out hg HRG.out)
  have GG2 := veil (GG1.out.trans hg)
  have RD2 := veil hr
  clear c0 c1 c2 c3 c4 c5 c6 c7 y0 y1 y2 y3 y4 y5 y6 y7 z0 z1 z2 z3 z4 z5 z6 z7 x0 x1 x2 x3 x4 x5 x6 x7
  clear hr hg RF1 RR1 RD1
  obtain ⟨c0, c1, c2, c3, c4, c5, c6, c7⟩ := frC8_cells RF2.out
  obtain ⟨y0, y1, y2, y3, y4, y5, y6, y7⟩ := frC8_cells RR2.out
  obtain ⟨z0, z1, z2, z3, z4, z5, z6, z7⟩ := frC8_fz RF2.out
  obtain ⟨x0, x1, x2, x3, x4, x5, x6, x7⟩ := frC8_fz RR2.out
  go_wp2_with fail
  have hfin : Fin base g w _ (w.heap.size) 0 0 0 0 0 false (.slice none 0 0) [] _ _ := ⟨RD2.out, GG2.out, RR2.out, HRW.out, HRB.out, World.ownsRow_nil _ _ _ _, (fun z hz => by cases hz), by decide, Nat.zero_le _, Nat.zero_le _, Nat.zero_le _, Nat.zero_le _⟩
  obtain ⟨F, q1, q2, q3, q4, q5, q6⟩ := hfin.done
  refine bodyPost_ret (result_frame rfl _ _ (w.heap.size) _ _ q6 8 _ rfl Tryz.underlying37 (by kernel_rfl) rfl) rfl ⟨F, _, _, by rw [q1], q3, ?_, q4, q5⟩
  rw [q2, Fr.frameR_kind]
  exact Fr.sim_then S0.out (show Fr.Sim (Fr.bodyR N) _ _ _ _ _ from (by have q := sim_no (b := b0) (e := e0) (a := ⟨0, 0, 0, 0, 0, false, [], []⟩) HB.out; simp only [true_and] at q ⊢; exact q))

set_option maxRecDepth 20000 in
set_option maxHeartbeats 2000000 in
theorem frame8 {base g : Nat} {b : List By} {w : World} (h : Rr base g b 0 w) (hb : base ≤ w.heap.size) (hk : (rdN b 0).1 = 8) :
    Calls Tryz.prog 71 #[.pointer (some ⟨g, 0, none⟩)] w fun x w' => FrOut base g Fr.frameR b 0 w x w' := by
  obtain ⟨W0, hW0⟩ : ∃ W, W = w.alloc (.cells (frC8 0 0 0 0 0 false (.slice none 0 0) (.slice none 0 0)) 37) := ⟨_, rfl⟩
  have r0 : Row W0 w.heap.size 37 (frC8 0 0 0 0 0 false (.slice none 0 0) (.slice none 0 0)) := by rw [hW0]; exact Row.new _ _ _
  have g0 : w.grownBy W0 (some g) := by rw [hW0]; exact grown_alloc _ _
  have KI := veil (kindC (show Rr base g b 0 W0 by rw [hW0]; exact h.alloc hb _))
  have hlt := h.lt
  have HLT := veil hlt
  have HRG := veil (show w.heap.size ≠ g by omega)
  have HRW := veil (Nat.le_refl w.heap.size)
  have HRB := veil hb
  have G0 := veil g0
  have R0 := veil r0
  have HK := veil hk
  clear r0 g0 h hb hlt hk
  go_enter Tryz.func71, Tryz.ntmps71
  go_wp2_with fail
  show Calls _ _ _ (w.alloc (.cells (frC8 0 0 0 0 0 false (.slice none 0 0) (.slice none 0 0)) 37)) _
  rw [← hW0]
  clear hW0
  refine KI.out.mono ?_
  rintro xx w1 ⟨nk, b0, e0, rfl, hnk, hs, hr, hg⟩
  obtain rfl : nk = 8 := by rw [hnk, HK.out]
  have S0 := veil hs
  have gg := G0.out.trans hg
  have hsz := gg.size
  have hlt := HLT.out
  have HFW := veil hsz
  have HFB := veil (show base ≤ w1.heap.size by have := HRB.out; omega)
  have hrw1 := (Row.grown R0.out hg HRG.out).lt
  have HRF := veil (show w.heap.size ≠ w1.heap.size by omega)
  have HFG := veil (show w1.heap.size ≠ g by omega)
  have hrf : w.heap.size ≠ w1.heap.size := HRF.out
  have RF1 : Hid (Row (w1.alloc (.cells #[.int .u8 0, .int .u64 0, .int .u64 0, .int .u64 0, .int .u64 0, .bool false, .slice none 0 0, .slice none 0 0] 37)) w1.heap.size 37 (frC8 0 0 0 0 0 false (.slice none 0 0) (.slice none 0 0))) := Row.new _ _ _
  have RR1 : Hid (Row (w1.alloc (.cells #[.int .u8 0, .int .u64 0, .int .u64 0, .int .u64 0, .int .u64 0, .bool false, .slice none 0 0, .slice none 0 0] 37)) w.heap.size 37 (frC8 0 0 0 0 0 false (.slice none 0 0) (.slice none 0 0))) := (Row.grown R0.out hg HRG.out).alloc _
  have GG1 : Hid (w.grownBy (w1.alloc (.cells #[.int .u8 0, .int .u64 0, .int .u64 0, .int .u64 0, .int .u64 0, .bool false, .slice none 0 0, .slice none 0 0] 37)) (some g)) := gg.trans (grown_alloc _ _)
  have RD1 : Hid (Rr base g b0 e0 (w1.alloc (.cells #[.int .u8 0, .int .u64 0, .int .u64 0, .int .u64 0, .int .u64 0, .bool false, .slice none 0 0, .slice none 0 0] 37))) := hr.alloc HFB.out _
  clear hs hr hg gg hsz hlt hrw1 hnk KI R0 G0
  obtain ⟨c0, c1, c2, c3, c4, c5, c6, c7⟩ := frC8_cells RF1.out
  obtain ⟨y0, y1, y2, y3, y4, y5, y6, y7⟩ := frC8_cells RR1.out
  obtain ⟨z0, z1, z2, z3, z4, z5, z6, z7⟩ := frC8_fz RF1.out
  obtain ⟨x0, x1, x2, x3, x4, x5, x6, x7⟩ := frC8_fz RR1.out
  have HB8 := veil (show base ≤ (w1.alloc (.cells #[.int .u8 0, .int .u64 0, .int .u64 0, .int .u64 0, .int .u64 0, .bool false, .slice none 0 0, .slice none 0 0] 37)).heap.size by have := HFB.out; simp; omega)
  clear c0 c1 c2 c3 c4 c5 c6 c7 y0 y1 y2 y3 y4 y5 y6 y7 z0 z1 z2 z3 z4 z5 z6 z7 x0 x1 x2 x3 x4 x5 x6 x7
  go_wp2_with fail
  refine (stream8 RD1.out HB8.out).mono ?_
  rintro xx w2 ⟨F, b1, e1, rfl, hF, hs, hr, hg⟩
  have R2 := veil (Row.grown RR1.out hg HRG.out)
  have hfz : F.cells.size = 8 := rfl
  go_wp2_with (with_reducible (show wpList _ _ _ (⟨_, Op.store 37 _ _, _, _, _, _⟩ :: _) _ _)
               refine store_row rfl 37 _ _ rfl w.heap.size F.cells rfl rfl _ _ R2.out 8 (by kernel_rfl) (by rfl) hfz (frM_one F) ?_)
  refine bodyPost_ret (result_frame rfl _ _ w.heap.size _ _ (R2.out.put _) 8 _ rfl Tryz.underlying37 (by kernel_rfl) hfz) rfl ⟨F, b1, e1, rfl, ?_, ?_, hr.below (bSetRow (Below.refl base w2) HRB.out _), grown_put (GG1.out.trans hg) (Nat.le_refl _) _⟩
  · exact (FrNew.setRow hF (show w.heap.size < _ by have := HRF.out; have := HFW.out; simp; omega) _).lowR (by have := HFW.out; simp; omega)
  · rw [Fr.frameR_kind]
    exact Fr.sim_then S0.out hs

set_option maxRecDepth 20000 in
set_option maxHeartbeats 2000000 in
theorem frame9 {base g : Nat} {b : List By} {w : World} (h : Rr base g b 0 w) (hb : base ≤ w.heap.size) (hk : (rdN b 0).1 = 9) :
    Calls Tryz.prog 71 #[.pointer (some ⟨g, 0, none⟩)] w fun x w' => FrOut base g Fr.frameR b 0 w x w' := by
  obtain ⟨W0, hW0⟩ : ∃ W, W = w.alloc (.cells (frC8 0 0 0 0 0 false (.slice none 0 0) (.slice none 0 0)) 37) := ⟨_, rfl⟩
  have r0 : Row W0 w.heap.size 37 (frC8 0 0 0 0 0 false (.slice none 0 0) (.slice none 0 0)) := by rw [hW0]; exact Row.new _ _ _
  have g0 : w.grownBy W0 (some g) := by rw [hW0]; exact grown_alloc _ _
  have KI := veil (kindC (show Rr base g b 0 W0 by rw [hW0]; exact h.alloc hb _))
  have hlt := h.lt
  have HLT := veil hlt
  have HRG := veil (show w.heap.size ≠ g by omega)
  have HRW := veil (Nat.le_refl w.heap.size)
  have HRB := veil hb
  have G0 := veil g0
  have R0 := veil r0
  have HK := veil hk
  clear r0 g0 h hb hlt hk
  go_enter Tryz.func71, Tryz.ntmps71
  go_wp2_with fail
  show Calls _ _ _ (w.alloc (.cells (frC8 0 0 0 0 0 false (.slice none 0 0) (.slice none 0 0)) 37)) _
  rw [← hW0]
  clear hW0
  refine KI.out.mono ?_
  rintro xx w1 ⟨nk, b0, e0, rfl, hnk, hs, hr, hg⟩
  obtain rfl : nk = 9 := by rw [hnk, HK.out]
  have S0 := veil hs
  have gg := G0.out.trans hg
  have hsz := gg.size
  have hlt := HLT.out
  have HFW := veil hsz
  have HFB := veil (show base ≤ w1.heap.size by have := HRB.out; omega)
  have hrw1 := (Row.grown R0.out hg HRG.out).lt
  have HRF := veil (show w.heap.size ≠ w1.heap.size by omega)
  have HFG := veil (show w1.heap.size ≠ g by omega)
  have hrf : w.heap.size ≠ w1.heap.size := HRF.out
  have RF1 : Hid (Row (w1.alloc (.cells #[.int .u8 0, .int .u64 0, .int .u64 0, .int .u64 0, .int .u64 0, .bool false, .slice none 0 0, .slice none 0 0] 37)) w1.heap.size 37 (frC8 0 0 0 0 0 false (.slice none 0 0) (.slice none 0 0))) := Row.new _ _ _
  have RR1 : Hid (Row (w1.alloc (.cells #[.int .u8 0, .int .u64 0, .int .u64 0, .int .u64 0, .int .u64 0, .bool false, .slice none 0 0, .slice none 0 0] 37)) w.heap.size 37 (frC8 0 0 0 0 0 false (.slice none 0 0) (.slice none 0 0))) := (Row.grown R0.out hg HRG.out).alloc _
  have GG1 : Hid (w.grownBy (w1.alloc (.cells #[.int .u8 0, .int .u64 0, .int .u64 0, .int .u64 0, .int .u64 0, .bool false, .slice none 0 0, .slice none 0 0] 37)) (some g)) := gg.trans (grown_alloc _ _)
  have RD1 : Hid (Rr base g b0 e0 (w1.alloc (.cells #[.int .u8 0, .int .u64 0, .int .u64 0, .int .u64 0, .int .u64 0, .bool false, .slice none 0 0, .slice none 0 0] 37))) := hr.alloc HFB.out _
  clear hs hr hg gg hsz hlt hrw1 hnk KI R0 G0
  obtain ⟨c0, c1, c2, c3, c4, c5, c6, c7⟩ := frC8_cells RF1.out
  obtain ⟨y0, y1, y2, y3, y4, y5, y6, y7⟩ := frC8_cells RR1.out
  obtain ⟨z0, z1, z2, z3, z4, z5, z6, z7⟩ := frC8_fz RF1.out
  obtain ⟨x0, x1, x2, x3, x4, x5, x6, x7⟩ := frC8_fz RR1.out
  have HB8 := veil (show base ≤ (w1.alloc (.cells #[.int .u8 0, .int .u64 0, .int .u64 0, .int .u64 0, .int .u64 0, .bool false, .slice none 0 0, .slice none 0 0] 37)).heap.size by have := HFB.out; simp; omega)
  clear c0 c1 c2 c3 c4 c5 c6 c7 y0 y1 y2 y3 y4 y5 y6 y7 z0 z1 z2 z3 z4 z5 z6 z7 x0 x1 x2 x3 x4 x5 x6 x7
  go_wp2_with fail
  refine (stream9 RD1.out HB8.out).mono ?_
  rintro xx w2 ⟨F, b1, e1, rfl, hF, hs, hr, hg⟩
  have R2 := veil (Row.grown RR1.out hg HRG.out)
  have hfz : F.cells.size = 8 := rfl
  go_wp2_with (with_reducible (show wpList _ _ _ (⟨_, Op.store 37 _ _, _, _, _, _⟩ :: _) _ _)
               refine store_row rfl 37 _ _ rfl w.heap.size F.cells rfl rfl _ _ R2.out 8 (by kernel_rfl) (by rfl) hfz (frM_one F) ?_)
  refine bodyPost_ret (result_frame rfl _ _ w.heap.size _ _ (R2.out.put _) 8 _ rfl Tryz.underlying37 (by kernel_rfl) hfz) rfl ⟨F, b1, e1, rfl, ?_, ?_, hr.below (bSetRow (Below.refl base w2) HRB.out _), grown_put (GG1.out.trans hg) (Nat.le_refl _) _⟩
  · exact (FrNew.setRow hF (show w.heap.size < _ by have := HRF.out; have := HFW.out; simp; omega) _).lowR (by have := HFW.out; simp; omega)
  · rw [Fr.frameR_kind]
    exact Fr.sim_then S0.out hs

set_option maxRecDepth 20000 in
set_option maxHeartbeats 2000000 in
theorem frame10 {base g : Nat} {b : List By} {w : World} (h : Rr base g b 0 w) (hb : base ≤ w.heap.size) (hk : (rdN b 0).1 = 10) :
    Calls Tryz.prog 71 #[.pointer (some ⟨g, 0, none⟩)] w fun x w' => FrOut base g Fr.frameR b 0 w x w' := by
  obtain ⟨W0, hW0⟩ : ∃ W, W = w.alloc (.cells (frC8 0 0 0 0 0 false (.slice none 0 0) (.slice none 0 0)) 37) := ⟨_, rfl⟩
  have r0 : Row W0 w.heap.size 37 (frC8 0 0 0 0 0 false (.slice none 0 0) (.slice none 0 0)) := by rw [hW0]; exact Row.new _ _ _
  have g0 : w.grownBy W0 (some g) := by rw [hW0]; exact grown_alloc _ _
  have KI := veil (kindC (show Rr base g b 0 W0 by rw [hW0]; exact h.alloc hb _))
  have hlt := h.lt
  have HLT := veil hlt
  have HRG := veil (show w.heap.size ≠ g by omega)
  have HRW := veil (Nat.le_refl w.heap.size)
  have HRB := veil hb
  have G0 := veil g0
  have R0 := veil r0
  have HK := veil hk
  clear r0 g0 h hb hlt hk
  go_enter Tryz.func71, Tryz.ntmps71
  go_wp2_with fail
  show Calls _ _ _ (w.alloc (.cells (frC8 0 0 0 0 0 false (.slice none 0 0) (.slice none 0 0)) 37)) _
  rw [← hW0]
  clear hW0
  refine KI.out.mono ?_
  rintro xx w1 ⟨nk, b0, e0, rfl, hnk, hs, hr, hg⟩
  obtain rfl : nk = 10 := by rw [hnk, HK.out]
  have S0 := veil hs
  have gg := G0.out.trans hg
  have hsz := gg.size
  have hlt := HLT.out
  have HFW := veil hsz
  have HFB := veil (show base ≤ w1.heap.size by have := HRB.out; omega)
  have hrw1 := (Row.grown R0.out hg HRG.out).lt
  have HRF := veil (show w.heap.size ≠ w1.heap.size by omega)
  have HFG := veil (show w1.heap.size ≠ g by omega)
  have hrf : w.heap.size ≠ w1.heap.size := HRF.out
  have RF1 : Hid (Row (w1.alloc (.cells #[.int .u8 0, .int .u64 0, .int .u64 0, .int .u64 0, .int .u64 0, .bool false, .slice none 0 0, .slice none 0 0] 37)) w1.heap.size 37 (frC8 0 0 0 0 0 false (.slice none 0 0) (.slice none 0 0))) := Row.new _ _ _
  have RR1 : Hid (Row (w1.alloc (.cells #[.int .u8 0, .int .u64 0, .int .u64 0, .int .u64 0, .int .u64 0, .bool false, .slice none 0 0, .slice none 0 0] 37)) w.heap.size 37 (frC8 0 0 0 0 0 false (.slice none 0 0) (.slice none 0 0))) := (Row.grown R0.out hg HRG.out).alloc _
  have GG1 : Hid (w.grownBy (w1.alloc (.cells #[.int .u8 0, .int .u64 0, .int .u64 0, .int .u64 0, .int .u64 0, .bool false, .slice none 0 0, .slice none 0 0] 37)) (some g)) := gg.trans (grown_alloc _ _)
  have RD1 : Hid (Rr base g b0 e0 (w1.alloc (.cells #[.int .u8 0, .int .u64 0, .int .u64 0, .int .u64 0, .int .u64 0, .bool false, .slice none 0 0, .slice none 0 0] 37))) := hr.alloc HFB.out _
  clear hs hr hg gg hsz hlt hrw1 hnk KI R0 G0
  obtain ⟨c0, c1, c2, c3, c4, c5, c6, c7⟩ := frC8_cells RF1.out
  obtain ⟨y0, y1, y2, y3, y4, y5, y6, y7⟩ := frC8_cells RR1.out
  obtain ⟨z0, z1, z2, z3, z4, z5, z6, z7⟩ := frC8_fz RF1.out
  obtain ⟨x0, x1, x2, x3, x4, x5, x6, x7⟩ := frC8_fz RR1.out
  have HB8 := veil (show base ≤ (w1.alloc (.cells #[.int .u8 0, .int .u64 0, .int .u64 0, .int .u64 0, .int .u64 0, .bool false, .slice none 0 0, .slice none 0 0] 37)).heap.size by have := HFB.out; simp; omega)
  clear c0 c1 c2 c3 c4 c5 c6 c7 y0 y1 y2 y3 y4 y5 y6 y7 z0 z1 z2 z3 z4 z5 z6 z7 x0 x1 x2 x3 x4 x5 x6 x7
  go_wp2_with fail
  refine (stream10 RD1.out HB8.out).mono ?_
  rintro xx w2 ⟨F, b1, e1, rfl, hF, hs, hr, hg⟩
  have R2 := veil (Row.grown RR1.out hg HRG.out)
  have hfz : F.cells.size = 8 := rfl
  go_wp2_with (with_reducible (show wpList _ _ _ (⟨_, Op.store 37 _ _, _, _, _, _⟩ :: _) _ _)
               refine store_row rfl 37 _ _ rfl w.heap.size F.cells rfl rfl _ _ R2.out 8 (by kernel_rfl) (by rfl) hfz (frM_one F) ?_)
  refine bodyPost_ret (result_frame rfl _ _ w.heap.size _ _ (R2.out.put _) 8 _ rfl Tryz.underlying37 (by kernel_rfl) hfz) rfl ⟨F, b1, e1, rfl, ?_, ?_, hr.below (bSetRow (Below.refl base w2) HRB.out _), grown_put (GG1.out.trans hg) (Nat.le_refl _) _⟩
  · exact (FrNew.setRow hF (show w.heap.size < _ by have := HRF.out; have := HFW.out; simp; omega) _).lowR (by have := HFW.out; simp; omega)
  · rw [Fr.frameR_kind]
    exact Fr.sim_then S0.out hs

set_option maxRecDepth 20000 in
set_option maxHeartbeats 2000000 in
theorem frame11 {base g : Nat} {b : List By} {w : World} (h : Rr base g b 0 w) (hb : base ≤ w.heap.size) (hk : (rdN b 0).1 = 11) :
    Calls Tryz.prog 71 #[.pointer (some ⟨g, 0, none⟩)] w fun x w' => FrOut base g Fr.frameR b 0 w x w' := by
  obtain ⟨W0, hW0⟩ : ∃ W, W = w.alloc (.cells (frC8 0 0 0 0 0 false (.slice none 0 0) (.slice none 0 0)) 37) := ⟨_, rfl⟩
  have r0 : Row W0 w.heap.size 37 (frC8 0 0 0 0 0 false (.slice none 0 0) (.slice none 0 0)) := by rw [hW0]; exact Row.new _ _ _
  have g0 : w.grownBy W0 (some g) := by rw [hW0]; exact grown_alloc _ _
  have KI := veil (kindC (show Rr base g b 0 W0 by rw [hW0]; exact h.alloc hb _))
  have hlt := h.lt
  have HLT := veil hlt
  have HRG := veil (show w.heap.size ≠ g by omega)
  have HRW := veil (Nat.le_refl w.heap.size)
  have HRB := veil hb
  have G0 := veil g0
  have R0 := veil r0
  have HK := veil hk
  clear r0 g0 h hb hlt hk
  go_enter Tryz.func71, Tryz.ntmps71
  go_wp2_with fail
  show Calls _ _ _ (w.alloc (.cells (frC8 0 0 0 0 0 false (.slice none 0 0) (.slice none 0 0)) 37)) _
  rw [← hW0]
  clear hW0
  refine KI.out.mono ?_
  rintro xx w1 ⟨nk, b0, e0, rfl, hnk, hs, hr, hg⟩
  obtain rfl : nk = 11 := by rw [hnk, HK.out]
  have S0 := veil hs
  have gg := G0.out.trans hg
  have hsz := gg.size
  have hlt := HLT.out
  have HFW := veil hsz
  have HFB := veil (show base ≤ w1.heap.size by have := HRB.out; omega)
  have hrw1 := (Row.grown R0.out hg HRG.out).lt
  have HRF := veil (show w.heap.size ≠ w1.heap.size by omega)
  have HFG := veil (show w1.heap.size ≠ g by omega)
  have hrf : w.heap.size ≠ w1.heap.size := HRF.out
  have RF1 : Hid (Row (w1.alloc (.cells #[.int .u8 0, .int .u64 0, .int .u64 0, .int .u64 0, .int .u64 0, .bool false, .slice none 0 0, .slice none 0 0] 37)) w1.heap.size 37 (frC8 0 0 0 0 0 false (.slice none 0 0) (.slice none 0 0))) := Row.new _ _ _
  have RR1 : Hid (Row (w1.alloc (.cells #[.int .u8 0, .int .u64 0, .int .u64 0, .int .u64 0, .int .u64 0, .bool false, .slice none 0 0, .slice none 0 0] 37)) w.heap.size 37 (frC8 0 0 0 0 0 false (.slice none 0 0) (.slice none 0 0))) := (Row.grown R0.out hg HRG.out).alloc _
  have GG1 : Hid (w.grownBy (w1.alloc (.cells #[.int .u8 0, .int .u64 0, .int .u64 0, .int .u64 0, .int .u64 0, .bool false, .slice none 0 0, .slice none 0 0] 37)) (some g)) := gg.trans (grown_alloc _ _)
  have RD1 : Hid (Rr base g b0 e0 (w1.alloc (.cells #[.int .u8 0, .int .u64 0, .int .u64 0, .int .u64 0, .int .u64 0, .bool false, .slice none 0 0, .slice none 0 0] 37))) := hr.alloc HFB.out _
  clear hs hr hg gg hsz hlt hrw1 hnk KI R0 G0
  obtain ⟨c0, c1, c2, c3, c4, c5, c6, c7⟩ := frC8_cells RF1.out
  obtain ⟨y0, y1, y2, y3, y4, y5, y6, y7⟩ := frC8_cells RR1.out
  obtain ⟨z0, z1, z2, z3, z4, z5, z6, z7⟩ := frC8_fz RF1.out
  obtain ⟨x0, x1, x2, x3, x4, x5, x6, x7⟩ := frC8_fz RR1.out
  have HB8 := veil (show base ≤ (w1.alloc (.cells #[.int .u8 0, .int .u64 0, .int .u64 0, .int .u64 0, .int .u64 0, .bool false, .slice none 0 0, .slice none 0 0] 37)).heap.size by have := HFB.out; simp; omega)
  clear c0 c1 c2 c3 c4 c5 c6 c7 y0 y1 y2 y3 y4 y5 y6 y7 z0 z1 z2 z3 z4 z5 z6 z7 x0 x1 x2 x3 x4 x5 x6 x7
  go_wp2_with fail
  refine (stream11 RD1.out HB8.out).mono ?_
  rintro xx w2 ⟨F, b1, e1, rfl, hF, hs, hr, hg⟩
  have R2 := veil (Row.grown RR1.out hg HRG.out)
  have hfz : F.cells.size = 8 := rfl
  go_wp2_with (with_reducible (show wpList _ _ _ (⟨_, Op.store 37 _ _, _, _, _, _⟩ :: _) _ _)
               refine store_row rfl 37 _ _ rfl w.heap.size F.cells rfl rfl _ _ R2.out 8 (by kernel_rfl) (by rfl) hfz (frM_one F) ?_)
  refine bodyPost_ret (result_frame rfl _ _ w.heap.size _ _ (R2.out.put _) 8 _ rfl Tryz.underlying37 (by kernel_rfl) hfz) rfl ⟨F, b1, e1, rfl, ?_, ?_, hr.below (bSetRow (Below.refl base w2) HRB.out _), grown_put (GG1.out.trans hg) (Nat.le_refl _) _⟩
  · exact (FrNew.setRow hF (show w.heap.size < _ by have := HRF.out; have := HFW.out; simp; omega) _).lowR (by have := HFW.out; simp; omega)
  · rw [Fr.frameR_kind]
    exact Fr.sim_then S0.out hs

set_option maxRecDepth 20000 in
set_option maxHeartbeats 2000000 in
theorem frame12 {base g : Nat} {b : List By} {w : World} (h : Rr base g b 0 w) (hb : base ≤ w.heap.size) (hk : (rdN b 0).1 = 12) :
    Calls Tryz.prog 71 #[.pointer (some ⟨g, 0, none⟩)] w fun x w' => FrOut base g Fr.frameR b 0 w x w' := by
  obtain ⟨W0, hW0⟩ : ∃ W, W = w.alloc (.cells (frC8 0 0 0 0 0 false (.slice none 0 0) (.slice none 0 0)) 37) := ⟨_, rfl⟩
  have r0 : Row W0 w.heap.size 37 (frC8 0 0 0 0 0 false (.slice none 0 0) (.slice none 0 0)) := by rw [hW0]; exact Row.new _ _ _
  have g0 : w.grownBy W0 (some g) := by rw [hW0]; exact grown_alloc _ _
  have KI := veil (kindC (show Rr base g b 0 W0 by rw [hW0]; exact h.alloc hb _))
  have hlt := h.lt
  have HLT := veil hlt
  have HRG := veil (show w.heap.size ≠ g by omega)
  have HRW := veil (Nat.le_refl w.heap.size)
  have HRB := veil hb
  have G0 := veil g0
  have R0 := veil r0
  have HK := veil hk
  clear r0 g0 h hb hlt hk
  go_enter Tryz.func71, Tryz.ntmps71
  go_wp2_with fail
  show Calls _ _ _ (w.alloc (.cells (frC8 0 0 0 0 0 false (.slice none 0 0) (.slice none 0 0)) 37)) _
  rw [← hW0]
  clear hW0
  refine KI.out.mono ?_
  rintro xx w1 ⟨nk, b0, e0, rfl, hnk, hs, hr, hg⟩
  obtain rfl : nk = 12 := by rw [hnk, HK.out]
  have S0 := veil hs
  have gg := G0.out.trans hg
  have hsz := gg.size
  have hlt := HLT.out
  have HFW := veil hsz
  have HFB := veil (show base ≤ w1.heap.size by have := HRB.out; omega)
  have hrw1 := (Row.grown R0.out hg HRG.out).lt
  have HRF := veil (show w.heap.size ≠ w1.heap.size by omega)
  have HFG := veil (show w1.heap.size ≠ g by omega)
  have hrf : w.heap.size ≠ w1.heap.size := HRF.out
  have RF1 : Hid (Row (w1.alloc (.cells #[.int .u8 0, .int .u64 0, .int .u64 0, .int .u64 0, .int .u64 0, .bool false, .slice none 0 0, .slice none 0 0] 37)) w1.heap.size 37 (frC8 0 0 0 0 0 false (.slice none 0 0) (.slice none 0 0))) := Row.new _ _ _
  have RR1 : Hid (Row (w1.alloc (.cells #[.int .u8 0, .int .u64 0, .int .u64 0, .int .u64 0, .int .u64 0, .bool false, .slice none 0 0, .slice none 0 0] 37)) w.heap.size 37 (frC8 0 0 0 0 0 false (.slice none 0 0) (.slice none 0 0))) := (Row.grown R0.out hg HRG.out).alloc _
  have GG1 : Hid (w.grownBy (w1.alloc (.cells #[.int .u8 0, .int .u64 0, .int .u64 0, .int .u64 0, .int .u64 0, .bool false, .slice none 0 0, .slice none 0 0] 37)) (some g)) := gg.trans (grown_alloc _ _)
  have RD1 : Hid (Rr base g b0 e0 (w1.alloc (.cells #[.int .u8 0, .int .u64 0, .int .u64 0, .int .u64 0, .int .u64 0, .bool false, .slice none 0 0, .slice none 0 0] 37))) := hr.alloc HFB.out _
  clear hs hr hg gg hsz hlt hrw1 hnk KI R0 G0
  obtain ⟨c0, c1, c2, c3, c4, c5, c6, c7⟩ := frC8_cells RF1.out
  obtain ⟨y0, y1, y2, y3, y4, y5, y6, y7⟩ := frC8_cells RR1.out
  obtain ⟨z0, z1, z2, z3, z4, z5, z6, z7⟩ := frC8_fz RF1.out
  obtain ⟨x0, x1, x2, x3, x4, x5, x6, x7⟩ := frC8_fz RR1.out
  have HB8 := veil (show base ≤ (w1.alloc (.cells #[.int .u8 0, .int .u64 0, .int .u64 0, .int .u64 0, .int .u64 0, .bool false, .slice none 0 0, .slice none 0 0] 37)).heap.size by have := HFB.out; simp; omega)
  clear c0 c1 c2 c3 c4 c5 c6 c7 y0 y1 y2 y3 y4 y5 y6 y7 z0 z1 z2 z3 z4 z5 z6 z7 x0 x1 x2 x3 x4 x5 x6 x7
  go_wp2_with fail
  refine (stream12 RD1.out HB8.out).mono ?_
  rintro xx w2 ⟨F, b1, e1, rfl, hF, hs, hr, hg⟩
  have R2 := veil (Row.grown RR1.out hg HRG.out)
  have hfz : F.cells.size = 8 := rfl
  go_wp2_with (with_reducible (show wpList _ _ _ (⟨_, Op.store 37 _ _, _, _, _, _⟩ :: _) _ _)
               refine store_row rfl 37 _ _ rfl w.heap.size F.cells rfl rfl _ _ R2.out 8 (by kernel_rfl) (by rfl) hfz (frM_one F) ?_)
  refine bodyPost_ret (result_frame rfl _ _ w.heap.size _ _ (R2.out.put _) 8 _ rfl Tryz.underlying37 (by kernel_rfl) hfz) rfl ⟨F, b1, e1, rfl, ?_, ?_, hr.below (bSetRow (Below.refl base w2) HRB.out _), grown_put (GG1.out.trans hg) (Nat.le_refl _) _⟩
  · exact (FrNew.setRow hF (show w.heap.size < _ by have := HRF.out; have := HFW.out; simp; omega) _).lowR (by have := HFW.out; simp; omega)
  · rw [Fr.frameR_kind]
    exact Fr.sim_then S0.out hs

set_option maxRecDepth 20000 in
set_option maxHeartbeats 2000000 in
theorem frame13 {base g : Nat} {b : List By} {w : World} (h : Rr base g b 0 w) (hb : base ≤ w.heap.size) (hk : (rdN b 0).1 = 13) :
    Calls Tryz.prog 71 #[.pointer (some ⟨g, 0, none⟩)] w fun x w' => FrOut base g Fr.frameR b 0 w x w' := by
  obtain ⟨W0, hW0⟩ : ∃ W, W = w.alloc (.cells (frC8 0 0 0 0 0 false (.slice none 0 0) (.slice none 0 0)) 37) := ⟨_, rfl⟩
  have r0 : Row W0 w.heap.size 37 (frC8 0 0 0 0 0 false (.slice none 0 0) (.slice none 0 0)) := by rw [hW0]; exact Row.new _ _ _
  have g0 : w.grownBy W0 (some g) := by rw [hW0]; exact grown_alloc _ _
  have KI := veil (kindC (show Rr base g b 0 W0 by rw [hW0]; exact h.alloc hb _))
  have hlt := h.lt
  have HLT := veil hlt
  have HRG := veil (show w.heap.size ≠ g by omega)
  have HRW := veil (Nat.le_refl w.heap.size)
  have HRB := veil hb
  have G0 := veil g0
  have R0 := veil r0
  have HK := veil hk
  clear r0 g0 h hb hlt hk
  go_enter Tryz.func71, Tryz.ntmps71
  go_wp2_with fail
  show Calls _ _ _ (w.alloc (.cells (frC8 0 0 0 0 0 false (.slice none 0 0) (.slice none 0 0)) 37)) _
  rw [← hW0]
  clear hW0
  refine KI.out.mono ?_
  rintro xx w1 ⟨nk, b0, e0, rfl, hnk, hs, hr, hg⟩
  obtain rfl : nk = 13 := by rw [hnk, HK.out]
  have S0 := veil hs
  have gg := G0.out.trans hg
  have hsz := gg.size
  have hlt := HLT.out
  have HFW := veil hsz
  have HFB := veil (show base ≤ w1.heap.size by have := HRB.out; omega)
  have hrw1 := (Row.grown R0.out hg HRG.out).lt
  have HRF := veil (show w.heap.size ≠ w1.heap.size by omega)
  have HFG := veil (show w1.heap.size ≠ g by omega)
  have hrf : w.heap.size ≠ w1.heap.size := HRF.out
  have RF1 : Hid (Row (w1.alloc (.cells #[.int .u8 0, .int .u64 0, .int .u64 0, .int .u64 0, .int .u64 0, .bool false, .slice none 0 0, .slice none 0 0] 37)) w1.heap.size 37 (frC8 0 0 0 0 0 false (.slice none 0 0) (.slice none 0 0))) := Row.new _ _ _
  have RR1 : Hid (Row (w1.alloc (.cells #[.int .u8 0, .int .u64 0, .int .u64 0, .int .u64 0, .int .u64 0, .bool false, .slice none 0 0, .slice none 0 0] 37)) w.heap.size 37 (frC8 0 0 0 0 0 false (.slice none 0 0) (.slice none 0 0))) := (Row.grown R0.out hg HRG.out).alloc _
  have GG1 : Hid (w.grownBy (w1.alloc (.cells #[.int .u8 0, .int .u64 0, .int .u64 0, .int .u64 0, .int .u64 0, .bool false, .slice none 0 0, .slice none 0 0] 37)) (some g)) := gg.trans (grown_alloc _ _)
  have RD1 : Hid (Rr base g b0 e0 (w1.alloc (.cells #[.int .u8 0, .int .u64 0, .int .u64 0, .int .u64 0, .int .u64 0, .bool false, .slice none 0 0, .slice none 0 0] 37))) := hr.alloc HFB.out _
  clear hs hr hg gg hsz hlt hrw1 hnk KI R0 G0
  obtain ⟨c0, c1, c2, c3, c4, c5, c6, c7⟩ := frC8_cells RF1.out
  obtain ⟨y0, y1, y2, y3, y4, y5, y6, y7⟩ := frC8_cells RR1.out
  obtain ⟨z0, z1, z2, z3, z4, z5, z6, z7⟩ := frC8_fz RF1.out
  obtain ⟨x0, x1, x2, x3, x4, x5, x6, x7⟩ := frC8_fz RR1.out
  have HB8 := veil (show base ≤ (w1.alloc (.cells #[.int .u8 0, .int .u64 0, .int .u64 0, .int .u64 0, .int .u64 0, .bool false, .slice none 0 0, .slice none 0 0] 37)).heap.size by have := HFB.out; simp; omega)
  clear c0 c1 c2 c3 c4 c5 c6 c7 y0 y1 y2 y3 y4 y5 y6 y7 z0 z1 z2 z3 z4 z5 z6 z7 x0 x1 x2 x3 x4 x5 x6 x7
  go_wp2_with fail
  refine (stream13 RD1.out HB8.out).mono ?_
  rintro xx w2 ⟨F, b1, e1, rfl, hF, hs, hr, hg⟩
  have R2 := veil (Row.grown RR1.out hg HRG.out)
  have hfz : F.cells.size = 8 := rfl
  go_wp2_with (with_reducible (show wpList _ _ _ (⟨_, Op.store 37 _ _, _, _, _, _⟩ :: _) _ _)
               refine store_row rfl 37 _ _ rfl w.heap.size F.cells rfl rfl _ _ R2.out 8 (by kernel_rfl) (by rfl) hfz (frM_one F) ?_)
  refine bodyPost_ret (result_frame rfl _ _ w.heap.size _ _ (R2.out.put _) 8 _ rfl Tryz.underlying37 (by kernel_rfl) hfz) rfl ⟨F, b1, e1, rfl, ?_, ?_, hr.below (bSetRow (Below.refl base w2) HRB.out _), grown_put (GG1.out.trans hg) (Nat.le_refl _) _⟩
  · exact (FrNew.setRow hF (show w.heap.size < _ by have := HRF.out; have := HFW.out; simp; omega) _).lowR (by have := HFW.out; simp; omega)
  · rw [Fr.frameR_kind]
    exact Fr.sim_then S0.out hs

set_option maxRecDepth 20000 in
set_option maxHeartbeats 2000000 in
theorem frame14 {base g : Nat} {b : List By} {w : World} (h : Rr base g b 0 w) (hb : base ≤ w.heap.size) (hk : (rdN b 0).1 = 14) :
    Calls Tryz.prog 71 #[.pointer (some ⟨g, 0, none⟩)] w fun x w' => FrOut base g Fr.frameR b 0 w x w' := by
  obtain ⟨W0, hW0⟩ : ∃ W, W = w.alloc (.cells (frC8 0 0 0 0 0 false (.slice none 0 0) (.slice none 0 0)) 37) := ⟨_, rfl⟩
  have r0 : Row W0 w.heap.size 37 (frC8 0 0 0 0 0 false (.slice none 0 0) (.slice none 0 0)) := by rw [hW0]; exact Row.new _ _ _
  have g0 : w.grownBy W0 (some g) := by rw [hW0]; exact grown_alloc _ _
  have KI := veil (kindC (show Rr base g b 0 W0 by rw [hW0]; exact h.alloc hb _))
  have hlt := h.lt
  have HLT := veil hlt
  have HRG := veil (show w.heap.size ≠ g by omega)
  have HRW := veil (Nat.le_refl w.heap.size)
  have HRB := veil hb
  have G0 := veil g0
  have R0 := veil r0
  have HK := veil hk
  clear r0 g0 h hb hlt hk
  go_enter Tryz.func71, Tryz.ntmps71
  go_wp2_with fail
  show Calls _ _ _ (w.alloc (.cells (frC8 0 0 0 0 0 false (.slice none 0 0) (.slice none 0 0)) 37)) _
  rw [← hW0]
  clear hW0
  refine KI.out.mono ?_
  rintro xx w1 ⟨nk, b0, e0, rfl, hnk, hs, hr, hg⟩
  obtain rfl : nk = 14 := by rw [hnk, HK.out]
  have S0 := veil hs
  have gg := G0.out.trans hg
  have hsz := gg.size
  have hlt := HLT.out
  have HFW := veil hsz
  have HFB := veil (show base ≤ w1.heap.size by have := HRB.out; omega)
  have hrw1 := (Row.grown R0.out hg HRG.out).lt
  have HRF := veil (show w.heap.size ≠ w1.heap.size by omega)
  have HFG := veil (show w1.heap.size ≠ g by omega)
  have hrf : w.heap.size ≠ w1.heap.size := HRF.out
  have RF1 : Hid (Row (w1.alloc (.cells #[.int .u8 0, .int .u64 0, .int .u64 0, .int .u64 0, .int .u64 0, .bool false, .slice none 0 0, .slice none 0 0] 37)) w1.heap.size 37 (frC8 0 0 0 0 0 false (.slice none 0 0) (.slice none 0 0))) := Row.new _ _ _
  have RR1 : Hid (Row (w1.alloc (.cells #[.int .u8 0, .int .u64 0, .int .u64 0, .int .u64 0, .int .u64 0, .bool false, .slice none 0 0, .slice none 0 0] 37)) w.heap.size 37 (frC8 0 0 0 0 0 false (.slice none 0 0) (.slice none 0 0))) := (Row.grown R0.out hg HRG.out).alloc _
  have GG1 : Hid (w.grownBy (w1.alloc (.cells #[.int .u8 0, .int .u64 0, .int .u64 0, .int .u64 0, .int .u64 0, .bool false, .slice none 0 0, .slice none 0 0] 37)) (some g)) := gg.trans (grown_alloc _ _)
  have RD1 : Hid (Rr base g b0 e0 (w1.alloc (.cells #[.int .u8 0, .int .u64 0, .int .u64 0, .int .u64 0, .int .u64 0, .bool false, .slice none 0 0, .slice none 0 0] 37))) := hr.alloc HFB.out _
  clear hs hr hg gg hsz hlt hrw1 hnk KI R0 G0
  obtain ⟨c0, c1, c2, c3, c4, c5, c6, c7⟩ := frC8_cells RF1.out
  obtain ⟨y0, y1, y2, y3, y4, y5, y6, y7⟩ := frC8_cells RR1.out
  obtain ⟨z0, z1, z2, z3, z4, z5, z6, z7⟩ := frC8_fz RF1.out
  obtain ⟨x0, x1, x2, x3, x4, x5, x6, x7⟩ := frC8_fz RR1.out
  have HB8 := veil (show base ≤ (w1.alloc (.cells #[.int .u8 0, .int .u64 0, .int .u64 0, .int .u64 0, .int .u64 0, .bool false, .slice none 0 0, .slice none 0 0] 37)).heap.size by have := HFB.out; simp; omega)
  clear c0 c1 c2 c3 c4 c5 c6 c7 y0 y1 y2 y3 y4 y5 y6 y7 z0 z1 z2 z3 z4 z5 z6 z7 x0 x1 x2 x3 x4 x5 x6 x7
  go_wp2_with fail
  refine (stream14 RD1.out HB8.out).mono ?_
  rintro xx w2 ⟨F, b1, e1, rfl, hF, hs, hr, hg⟩
  have R2 := veil (Row.grown RR1.out hg HRG.out)
  have hfz : F.cells.size = 8 := rfl
  go_wp2_with (with_reducible (show wpList _ _ _ (⟨_, Op.store 37 _ _, _, _, _, _⟩ :: _) _ _)
               refine store_row rfl 37 _ _ rfl w.heap.size F.cells rfl rfl _ _ R2.out 8 (by kernel_rfl) (by rfl) hfz (frM_one F) ?_)
  refine bodyPost_ret (result_frame rfl _ _ w.heap.size _ _ (R2.out.put _) 8 _ rfl Tryz.underlying37 (by kernel_rfl) hfz) rfl ⟨F, b1, e1, rfl, ?_, ?_, hr.below (bSetRow (Below.refl base w2) HRB.out _), grown_put (GG1.out.trans hg) (Nat.le_refl _) _⟩
  · exact (FrNew.setRow hF (show w.heap.size < _ by have := HRF.out; have := HFW.out; simp; omega) _).lowR (by have := HFW.out; simp; omega)
  · rw [Fr.frameR_kind]
    exact Fr.sim_then S0.out hs

set_option maxRecDepth 20000 in
set_option maxHeartbeats 2000000 in
theorem frame15 {base g : Nat} {b : List By} {w : World} (h : Rr base g b 0 w) (hb : base ≤ w.heap.size) (hk : (rdN b 0).1 = 15) :
    Calls Tryz.prog 71 #[.pointer (some ⟨g, 0, none⟩)] w fun x w' => FrOut base g Fr.frameR b 0 w x w' := by
  obtain ⟨W0, hW0⟩ : ∃ W, W = w.alloc (.cells (frC8 0 0 0 0 0 false (.slice none 0 0) (.slice none 0 0)) 37) := ⟨_, rfl⟩
  have r0 : Row W0 w.heap.size 37 (frC8 0 0 0 0 0 false (.slice none 0 0) (.slice none 0 0)) := by rw [hW0]; exact Row.new _ _ _
  have g0 : w.grownBy W0 (some g) := by rw [hW0]; exact grown_alloc _ _
  have KI := veil (kindC (show Rr base g b 0 W0 by rw [hW0]; exact h.alloc hb _))
  have hlt := h.lt
  have HLT := veil hlt
  have HRG := veil (show w.heap.size ≠ g by omega)
  have HRW := veil (Nat.le_refl w.heap.size)
  have HRB := veil hb
  have G0 := veil g0
  have R0 := veil r0
  have HK := veil hk
  clear r0 g0 h hb hlt hk
  go_enter Tryz.func71, Tryz.ntmps71
  go_wp2_with fail
  show Calls _ _ _ (w.alloc (.cells (frC8 0 0 0 0 0 false (.slice none 0 0) (.slice none 0 0)) 37)) _
  rw [← hW0]
  clear hW0
  refine KI.out.mono ?_
  rintro xx w1 ⟨nk, b0, e0, rfl, hnk, hs, hr, hg⟩
  obtain rfl : nk = 15 := by rw [hnk, HK.out]
  have S0 := veil hs
  have gg := G0.out.trans hg
  have hsz := gg.size
  have hlt := HLT.out
  have HFW := veil hsz
  have HFB := veil (show base ≤ w1.heap.size by have := HRB.out; omega)
  have hrw1 := (Row.grown R0.out hg HRG.out).lt
  have HRF := veil (show w.heap.size ≠ w1.heap.size by omega)
  have HFG := veil (show w1.heap.size ≠ g by omega)
  have hrf : w.heap.size ≠ w1.heap.size := HRF.out
  have RF1 : Hid (Row (w1.alloc (.cells #[.int .u8 0, .int .u64 0, .int .u64 0, .int .u64 0, .int .u64 0, .bool false, .slice none 0 0, .slice none 0 0] 37)) w1.heap.size 37 (frC8 0 0 0 0 0 false (.slice none 0 0) (.slice none 0 0))) := Row.new _ _ _
  have RR1 : Hid (Row (w1.alloc (.cells #[.int .u8 0, .int .u64 0, .int .u64 0, .int .u64 0, .int .u64 0, .bool false, .slice none 0 0, .slice none 0 0] 37)) w.heap.size 37 (frC8 0 0 0 0 0 false (.slice none 0 0) (.slice none 0 0))) := (Row.grown R0.out hg HRG.out).alloc _
  have GG1 : Hid (w.grownBy (w1.alloc (.cells #[.int .u8 0, .int .u64 0, .int .u64 0, .int .u64 0, .int .u64 0, .bool false, .slice none 0 0, .slice none 0 0] 37)) (some g)) := gg.trans (grown_alloc _ _)
  have RD1 : Hid (Rr base g b0 e0 (w1.alloc (.cells #[.int .u8 0, .int .u64 0, .int .u64 0, .int .u64 0, .int .u64 0, .bool false, .slice none 0 0, .slice none 0 0] 37))) := hr.alloc HFB.out _
  clear hs hr hg gg hsz hlt hrw1 hnk KI R0 G0
  obtain ⟨c0, c1, c2, c3, c4, c5, c6, c7⟩ := frC8_cells RF1.out
  obtain ⟨y0, y1, y2, y3, y4, y5, y6, y7⟩ := frC8_cells RR1.out
  obtain ⟨z0, z1, z2, z3, z4, z5, z6, z7⟩ := frC8_fz RF1.out
  obtain ⟨x0, x1, x2, x3, x4, x5, x6, x7⟩ := frC8_fz RR1.out
  have HB8 := veil (show base ≤ (w1.alloc (.cells #[.int .u8 0, .int .u64 0, .int .u64 0, .int .u64 0, .int .u64 0, .bool false, .slice none 0 0, .slice none 0 0] 37)).heap.size by have := HFB.out; simp; omega)
  clear c0 c1 c2 c3 c4 c5 c6 c7 y0 y1 y2 y3 y4 y5 y6 y7 z0 z1 z2 z3 z4 z5 z6 z7 x0 x1 x2 x3 x4 x5 x6 x7
  go_wp2_with fail
  refine (stream15 RD1.out HB8.out).mono ?_
  rintro xx w2 ⟨F, b1, e1, rfl, hF, hs, hr, hg⟩
  have R2 := veil (Row.grown RR1.out hg HRG.out)
  have hfz : F.cells.size = 8 := rfl
  go_wp2_with (with_reducible (show wpList _ _ _ (⟨_, Op.store 37 _ _, _, _, _, _⟩ :: _) _ _)
               refine store_row rfl 37 _ _ rfl w.heap.size F.cells rfl rfl _ _ R2.out 8 (by kernel_rfl) (by rfl) hfz (frM_one F) ?_)
  refine bodyPost_ret (result_frame rfl _ _ w.heap.size _ _ (R2.out.put _) 8 _ rfl Tryz.underlying37 (by kernel_rfl) hfz) rfl ⟨F, b1, e1, rfl, ?_, ?_, hr.below (bSetRow (Below.refl base w2) HRB.out _), grown_put (GG1.out.trans hg) (Nat.le_refl _) _⟩
  · exact (FrNew.setRow hF (show w.heap.size < _ by have := HRF.out; have := HFW.out; simp; omega) _).lowR (by have := HFW.out; simp; omega)
  · rw [Fr.frameR_kind]
    exact Fr.sim_then S0.out hs
end Go.Proofs.YtimhbjlmpojhoaaGreatDoor
