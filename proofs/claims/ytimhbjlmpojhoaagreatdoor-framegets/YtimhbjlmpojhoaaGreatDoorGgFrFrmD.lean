/-
  The document's reader: frame.
-/
import Derived.Test.YtimhbjlmpojhoaaGreatDoorGg16
import Derived.Test.YtimhbjlmpojhoaaGreatDoorGgFrFrmB
import Derived.Test.YtimhbjlmpojhoaaGreatDoorGgFrFrmC
import Derived.Test.YtimhbjlmpojhoaaGreatDoorGgFrAckM
namespace Go.Proofs.YtimhbjlmpojhoaaGreatDoor
open Go Go.RowKit

set_option maxRecDepth 20000 in
set_option maxHeartbeats 2000000 in
theorem frame2 {base g : Nat} {b : List By} {w : World} (h : Rr base g b 0 w) (hb : base ≤ w.heap.size) (hk : (rdN b 0).1 = 2) :
    Calls Tryz.prog 71 #[.pointer (some ⟨g, 0, none⟩)] w fun x w' => FrOut base g Fr.frameR b 0 w x w' := by
  obtain ⟨W0, hW0⟩ : ∃ W, W = w.alloc (.cells (frC8 0 0 0 0 0 false (.slice none 0 0) (.slice none 0 0)) 37) := ⟨_, rfl⟩
  have r0 : Row W0 w.heap.size 37 (frC8 0 0 0 0 0 false (.slice none 0 0) (.slice none 0 0)) := by rw [hW0]; exact Row.new _ _ _
  have g0 : w.grownBy W0 (some g) := by rw [hW0]; exact grown_alloc _ _
  have KI := veil (kindC (show Rr base g b 0 W0 by rw [hW0]; exact h.alloc hb _))
  have hlt := h.lt
  have HLT := veil hlt
  have HRG := veil (show w.heap.size ≠ g by omega)
  have HRW := veil (Nat.le_refl w.heap.size)
  have HRB := veil hb
  have G0 := veil g0
  have R0 := veil r0
  have HK := veil hk
  clear r0 g0 h hb hlt hk
  go_enter Tryz.func71, Tryz.ntmps71
  go_wp2_with fail
  show Calls _ _ _ (w.alloc (.cells (frC8 0 0 0 0 0 false (.slice none 0 0) (.slice none 0 0)) 37)) _
  rw [← hW0]
  clear hW0
  refine KI.out.mono ?_
  rintro xx w1 ⟨nk, b0, e0, rfl, hnk, hs, hr, hg⟩
  obtain rfl : nk = 2 := by rw [hnk, HK.out]
  have S0 := veil hs
  have gg := G0.out.trans hg
  have hsz := gg.size
  have hlt := HLT.out
  have HFW := veil hsz
  have HFB := veil (show base ≤ w1.heap.size by have := HRB.out; omega)
  have hrw1 := (Row.grown R0.out hg HRG.out).lt
  have HRF := veil (show w.heap.size ≠ w1.heap.size by omega)
  have HFG := veil (show w1.heap.size ≠ g by omega)
  have hrf : w.heap.size ≠ w1.heap.size := HRF.out
  have RF1 : Hid (Row (w1.alloc (.cells #[.int .u8 0, .int .u64 0, .int .u64 0, .int .u64 0, .int .u64 0, .bool false, .slice none 0 0, .slice none 0 0] 37)) w1.heap.size 37 (frC8 0 0 0 0 0 false (.slice none 0 0) (.slice none 0 0))) := Row.new _ _ _
  have RR1 : Hid (Row (w1.alloc (.cells #[.int .u8 0, .int .u64 0, .int .u64 0, .int .u64 0, .int .u64 0, .bool false, .slice none 0 0, .slice none 0 0] 37)) w.heap.size 37 (frC8 0 0 0 0 0 false (.slice none 0 0) (.slice none 0 0))) := (Row.grown R0.out hg HRG.out).alloc _
  have GG1 : Hid (w.grownBy (w1.alloc (.cells #[.int .u8 0, .int .u64 0, .int .u64 0, .int .u64 0, .int .u64 0, .bool false, .slice none 0 0, .slice none 0 0] 37)) (some g)) := gg.trans (grown_alloc _ _)
  have RD1 : Hid (Rr base g b0 e0 (w1.alloc (.cells #[.int .u8 0, .int .u64 0, .int .u64 0, .int .u64 0, .int .u64 0, .bool false, .slice none 0 0, .slice none 0 0] 37))) := hr.alloc HFB.out _
  clear hs hr hg gg hsz hlt hrw1 hnk KI R0 G0
  obtain ⟨c0, c1, c2, c3, c4, c5, c6, c7⟩ := frC8_cells RF1.out
  obtain ⟨y0, y1, y2, y3, y4, y5, y6, y7⟩ := frC8_cells RR1.out
  obtain ⟨z0, z1, z2, z3, z4, z5, z6, z7⟩ := frC8_fz RF1.out
  obtain ⟨x0, x1, x2, x3, x4, x5, x6, x7⟩ := frC8_fz RR1.out
  have HB8 := veil (show base ≤ (w1.alloc (.cells #[.int .u8 0, .int .u64 0, .int .u64 0, .int .u64 0, .int .u64 0, .bool false, .slice none 0 0, .slice none 0 0] 37)).heap.size by have := HFB.out; simp; omega)
  clear c0 c1 c2 c3 c4 c5 c6 c7 y0 y1 y2 y3 y4 y5 y6 y7 z0 z1 z2 z3 z4 z5 z6 z7 x0 x1 x2 x3 x4 x5 x6 x7
  go_wp2_with fail
  refine (ackC RD1.out HB8.out).mono ?_
  rintro xx w2 ⟨F, b1, e1, rfl, hF, hs, hr, hg⟩
  have R2 := veil (Row.grown RR1.out hg HRG.out)
  have hfz : F.cells.size = 8 := rfl
  go_wp2_with (with_reducible (show wpList _ _ _ (⟨_, Op.store 37 _ _, _, _, _, _⟩ :: _) _ _)
               refine store_row rfl 37 _ _ rfl w.heap.size F.cells rfl rfl _ _ R2.out 8 (by kernel_rfl) (by rfl) hfz (frM_one F) ?_)
  refine bodyPost_ret (result_frame rfl _ _ w.heap.size _ _ (R2.out.put _) 8 _ rfl Tryz.underlying37 (by kernel_rfl) hfz) rfl ⟨F, b1, e1, rfl, ?_, ?_, hr.below (bSetRow (Below.refl base w2) HRB.out _), grown_put (GG1.out.trans hg) (Nat.le_refl _) _⟩
  · exact (FrNew.setRow hF (show w.heap.size < _ by have := HRF.out; have := HFW.out; simp; omega) _).lowR (by have := HFW.out; simp; omega)
  · rw [Fr.frameR_kind]
    exact Fr.sim_then S0.out hs
/-- The next frame. -/
theorem frameC {base g : Nat} {b : List By} {w : World} (h : Rr base g b 0 w) (hb : base ≤ w.heap.size) :
    Calls Tryz.prog 71 #[.pointer (some ⟨g, 0, none⟩)] w fun x w' => FrOut base g Fr.frameR b 0 w x w' := by
  by_cases h0 : (rdN b 0).1 = 0
  · exact frame0 h hb h0
  by_cases h1 : (rdN b 0).1 = 1
  · exact frame1 h hb h1
  by_cases h2 : (rdN b 0).1 = 2
  · exact frame2 h hb h2
  by_cases h4 : (rdN b 0).1 = 4
  · exact frame4 h hb h4
  by_cases h5 : (rdN b 0).1 = 5
  · exact frame5 h hb h5
  by_cases h6 : (rdN b 0).1 = 6
  · exact frame6 h hb h6
  by_cases h8 : (rdN b 0).1 = 8
  · exact frame8 h hb h8
  by_cases h9 : (rdN b 0).1 = 9
  · exact frame9 h hb h9
  by_cases h10 : (rdN b 0).1 = 10
  · exact frame10 h hb h10
  by_cases h11 : (rdN b 0).1 = 11
  · exact frame11 h hb h11
  by_cases h12 : (rdN b 0).1 = 12
  · exact frame12 h hb h12
  by_cases h13 : (rdN b 0).1 = 13
  · exact frame13 h hb h13
  by_cases h14 : (rdN b 0).1 = 14
  · exact frame14 h hb h14
  by_cases h15 : (rdN b 0).1 = 15
  · exact frame15 h hb h15
  by_cases h16 : (rdN b 0).1 = 16
  · exact frame16 h hb h16
  by_cases h17 : (rdN b 0).1 = 17
  · exact frame17 h hb h17
  by_cases h18 : (rdN b 0).1 = 18
  · exact frame18 h hb h18
  by_cases h19 : (rdN b 0).1 = 19
  · exact frame19 h hb h19
  by_cases h20 : (rdN b 0).1 = 20
  · exact frame20 h hb h20
  by_cases h21 : (rdN b 0).1 = 21
  · exact frame21 h hb h21
  by_cases h28 : (rdN b 0).1 = 28
  · exact frame28 h hb h28
  by_cases h29 : (rdN b 0).1 = 29
  · exact frame29 h hb h29
  by_cases h30 : (rdN b 0).1 = 30
  · exact frame30 h hb h30
  exact frameN (rdN b 0).1 (fun c hc => by
    simp only [List.mem_cons, List.not_mem_nil, or_false] at hc
    rcases hc with rfl | rfl | rfl | rfl | rfl | rfl | rfl | rfl | rfl | rfl | rfl | rfl | rfl | rfl | rfl | rfl | rfl | rfl | rfl | rfl | rfl | rfl | rfl <;> assumption) h hb rfl
end Go.Proofs.YtimhbjlmpojhoaaGreatDoor
