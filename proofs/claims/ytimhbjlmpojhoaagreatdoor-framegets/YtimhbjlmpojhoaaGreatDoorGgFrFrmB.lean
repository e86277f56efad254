/-
  The document's reader: frame.
-/
import Derived.Test.YtimhbjlmpojhoaaGreatDoorGg16
namespace Go.Proofs.YtimhbjlmpojhoaaGreatDoor
open Go Go.RowKit

set_option maxRecDepth 20000 in
set_option maxHeartbeats 2000000 in
theorem frame17 {base g : Nat} {b : List By} {w : World} (h : Rr base g b 0 w) (hb : base ≤ w.heap.size) (hk : (rdN b 0).1 = 17) :
    Calls Tryz.prog 71 #[.pointer (some ⟨g, 0, none⟩)] w fun x w' => FrOut base g Fr.frameR b 0 w x w' := by
  obtain ⟨W0, hW0⟩ : ∃ W, W = w.alloc (.cells (frC8 0 0 0 0 0 false (.slice none 0 0) (.slice none 0 0)) 37) := ⟨_, rfl⟩
  have r0 : Row W0 w.heap.size 37 (frC8 0 0 0 0 0 false (.slice none 0 0) (.slice none 0 0)) := by rw [hW0]; exact Row.new _ _ _
  have g0 : w.grownBy W0 (some g) := by rw [hW0]; exact grown_alloc _ _
  have KI := veil (kindC (show Rr base g b 0 W0 by rw [hW0]; exact h.alloc hb _))
  have hlt := h.lt
  have HLT := veil hlt
  have HRG := veil (show w.heap.size ≠ g by omega)
  have HRW := veil (Nat.le_refl w.heap.size)
  have HRB := veil hb
  have G0 := veil g0
  have R0 := veil r0
  have HK := veil hk
  clear r0 g0 h hb hlt hk
  go_enter Tryz.func71, Tryz.ntmps71
  go_wp2_with fail
  show Calls _ _ _ (w.alloc (.cells (frC8 0 0 0 0 0 false (.slice none 0 0) (.slice none 0 0)) 37)) _
  rw [← hW0]
  clear hW0
  refine KI.out.mono ?_
  rintro xx w1 ⟨nk, b0, e0, rfl, hnk, hs, hr, hg⟩
  obtain rfl : nk = 17 := by rw [hnk, HK.out]
  have S0 := veil hs
  have gg := G0.out.trans hg
  have hsz := gg.size
  have hlt := HLT.out
  have HFW := veil hsz
  have HFB := veil (show base ≤ w1.heap.size by have := HRB.out; omega)
  have hrw1 := (Row.grown R0.out hg HRG.out).lt
  have HRF := veil (show w.heap.size ≠ w1.heap.size by omega)
  have HFG := veil (show w1.heap.size ≠ g by omega)
  have hrf : w.heap.size ≠ w1.heap.size := HRF.out
  have RF1 : Hid (Row (w1.alloc (.cells #[.int .u8 9, .int .u64 0, .int .u64 0, .int .u64 0, .int .u64 0, .bool false, .slice none 0 0, .slice none 0 0] 37)) w1.heap.size 37 (frC8 9 0 0 0 0 false (.slice none 0 0) (.slice none 0 0))) := Row.new _ _ _
  have RR1 : Hid (Row (w1.alloc (.cells #[.int .u8 9, .int .u64 0, .int .u64 0, .int .u64 0, .int .u64 0, .bool false, .slice none 0 0, .slice none 0 0] 37)) w.heap.size 37 (frC8 0 0 0 0 0 false (.slice none 0 0) (.slice none 0 0))) := (Row.grown R0.out hg HRG.out).alloc _
  have GG1 : Hid (w.grownBy (w1.alloc (.cells #[.int .u8 9, .int .u64 0, .int .u64 0, .int .u64 0, .int .u64 0, .bool false, .slice none 0 0, .slice none 0 0] 37)) (some g)) := gg.trans (grown_alloc _ _)
  have RD1 : Hid (Rr base g b0 e0 (w1.alloc (.cells #[.int .u8 9, .int .u64 0, .int .u64 0, .int .u64 0, .int .u64 0, .bool false, .slice none 0 0, .slice none 0 0] 37))) := hr.alloc HFB.out _
  clear hs hr hg gg hsz hlt hrw1 hnk KI R0 G0
  obtain ⟨c0, c1, c2, c3, c4, c5, c6, c7⟩ := frC8_cells RF1.out
  obtain ⟨y0, y1, y2, y3, y4, y5, y6, y7⟩ := frC8_cells RR1.out
  obtain ⟨z0, z1, z2, z3, z4, z5, z6, z7⟩ := frC8_fz RF1.out
  obtain ⟨x0, x1, x2, x3, x4, x5, x6, x7⟩ := frC8_fz RR1.out
  go_wp2_with fail
  refine (numberC RD1.out).mono ?_
  rintro xx w2 ⟨n1, b1, e1, rfl, hn, hs, hr, hg⟩
  have RF2 := veil (Row.grown (RF1.out : Row _ w1.heap.size 37 (frC8 9 0 0 0 0 false (.slice none 0 0) (.slice none 0 0))) hg HFG.out)
  have RR2 := veil (Row.grown RR1.out hg HRG.out)
  have GG2 := veil (GG1.out.trans hg)
  have RD2 := veil hr
  have HN1 := veil hn
  have S1 := veil hs
  clear hn hs
  clear c0 c1 c2 c3 c4 c5 c6 c7 y0 y1 y2 y3 y4 y5 y6 y7 z0 z1 z2 z3 z4 z5 z6 z7 x0 x1 x2 x3 x4 x5 x6 x7
  clear hr hg RF1 RR1 RD1
  obtain ⟨c0, c1, c2, c3, c4, c5, c6, c7⟩ := frC8_cells RF2.out
  obtain ⟨y0, y1, y2, y3, y4, y5, y6, y7⟩ := frC8_cells RR2.out
  obtain ⟨z0, z1, z2, z3, z4, z5, z6, z7⟩ := frC8_fz RF2.out
  obtain ⟨x0, x1, x2, x3, x4, x5, x6, x7⟩ := frC8_fz RR2.out
  go_wp2_with fail
  refine (numberC (RD2.out.set HFB.out 1 (.int .u64 ((n1 : Nat) : Int)))).mono ?_
  rintro xx w3 ⟨n2, b2, e2, rfl, hn, hs, hr, hg⟩
  have RF3 := veil (Row.grown ((RF2.out.set 1 (.int .u64 ((n1 : Nat) : Int))) : Row _ w1.heap.size 37 (frC8 9 n1 0 0 0 false (.slice none 0 0) (.slice none 0 0))) hg HFG.out)
  have RR3 := veil (Row.grown (RR2.out.other (a := ⟨w1.heap.size, 1, none⟩) HRF.out (.int .u64 ((n1 : Nat) : Int))) hg HRG.out)
  have GG3 := veil ((gset GG2.out HFW.out 1 (.int .u64 ((n1 : Nat) : Int))).trans hg)
  have RD3 := veil hr
  have HN2 := veil hn
  have S2 := veil hs
  clear hn hs
  clear c0 c1 c2 c3 c4 c5 c6 c7 y0 y1 y2 y3 y4 y5 y6 y7 z0 z1 z2 z3 z4 z5 z6 z7 x0 x1 x2 x3 x4 x5 x6 x7
  clear hr hg RF2 RR2 RD2
  obtain ⟨c0, c1, c2, c3, c4, c5, c6, c7⟩ := frC8_cells RF3.out
  obtain ⟨y0, y1, y2, y3, y4, y5, y6, y7⟩ := frC8_cells RR3.out
  obtain ⟨z0, z1, z2, z3, z4, z5, z6, z7⟩ := frC8_fz RF3.out
  obtain ⟨x0, x1, x2, x3, x4, x5, x6, x7⟩ := frC8_fz RR3.out
  go_wp2_with fail
  have hfin : Fin base g w _ (w.heap.size) 9 n1 0 n2 0 false (.slice none 0 0) [] _ _ := ⟨(RD3.out.set HFB.out 3 (.int .u64 ((n2 : Nat) : Int))), (gset GG3.out HFW.out 3 (.int .u64 ((n2 : Nat) : Int))), (RR3.out.other (a := ⟨w1.heap.size, 3, none⟩) HRF.out (.int .u64 ((n2 : Nat) : Int))), HRW.out, HRB.out, World.ownsRow_nil _ _ _ _, (fun z hz => by cases hz), by decide, HN1.out, Nat.zero_le _, HN2.out, Nat.zero_le _⟩
  obtain ⟨F, q1, q2, q3, q4, q5, q6⟩ := hfin.done
  refine bodyPost_ret (result_frame rfl _ _ (w.heap.size) _ _ q6 8 _ rfl Tryz.underlying37 (by kernel_rfl) rfl) rfl ⟨F, _, _, by rw [q1], q3, ?_, q4, q5⟩
  rw [q2, Fr.frameR_kind]
  exact Fr.sim_then S0.out (show Fr.Sim (Fr.bodyR 17) _ _ _ _ _ from (Fr.sim_then S1.out (Fr.sim_then S2.out (Fr.sim_ok _ _ _))))

set_option maxRecDepth 20000 in
set_option maxHeartbeats 2000000 in
theorem frame18 {base g : Nat} {b : List By} {w : World} (h : Rr base g b 0 w) (hb : base ≤ w.heap.size) (hk : (rdN b 0).1 = 18) :
    Calls Tryz.prog 71 #[.pointer (some ⟨g, 0, none⟩)] w fun x w' => FrOut base g Fr.frameR b 0 w x w' := by
  obtain ⟨W0, hW0⟩ : ∃ W, W = w.alloc (.cells (frC8 0 0 0 0 0 false (.slice none 0 0) (.slice none 0 0)) 37) := ⟨_, rfl⟩
  have r0 : Row W0 w.heap.size 37 (frC8 0 0 0 0 0 false (.slice none 0 0) (.slice none 0 0)) := by rw [hW0]; exact Row.new _ _ _
  have g0 : w.grownBy W0 (some g) := by rw [hW0]; exact grown_alloc _ _
  have KI := veil (kindC (show Rr base g b 0 W0 by rw [hW0]; exact h.alloc hb _))
  have hlt := h.lt
  have HLT := veil hlt
  have HRG := veil (show w.heap.size ≠ g by omega)
  have HRW := veil (Nat.le_refl w.heap.size)
  have HRB := veil hb
  have G0 := veil g0
  have R0 := veil r0
  have HK := veil hk
  clear r0 g0 h hb hlt hk
  go_enter Tryz.func71, Tryz.ntmps71
  go_wp2_with fail
  show Calls _ _ _ (w.alloc (.cells (frC8 0 0 0 0 0 false (.slice none 0 0) (.slice none 0 0)) 37)) _
  rw [← hW0]
  clear hW0
  refine KI.out.mono ?_
  rintro xx w1 ⟨nk, b0, e0, rfl, hnk, hs, hr, hg⟩
  obtain rfl : nk = 18 := by rw [hnk, HK.out]
  have S0 := veil hs
  have gg := G0.out.trans hg
  have hsz := gg.size
  have hlt := HLT.out
  have HFW := veil hsz
  have HFB := veil (show base ≤ w1.heap.size by have := HRB.out; omega)
  have hrw1 := (Row.grown R0.out hg HRG.out).lt
  have HRF := veil (show w.heap.size ≠ w1.heap.size by omega)
  have HFG := veil (show w1.heap.size ≠ g by omega)
  have hrf : w.heap.size ≠ w1.heap.size := HRF.out
  have RF1 : Hid (Row (w1.alloc (.cells #[.int .u8 10, .int .u64 0, .int .u64 0, .int .u64 0, .int .u64 0, .bool false, .slice none 0 0, .slice none 0 0] 37)) w1.heap.size 37 (frC8 10 0 0 0 0 false (.slice none 0 0) (.slice none 0 0))) := Row.new _ _ _
  have RR1 : Hid (Row (w1.alloc (.cells #[.int .u8 10, .int .u64 0, .int .u64 0, .int .u64 0, .int .u64 0, .bool false, .slice none 0 0, .slice none 0 0] 37)) w.heap.size 37 (frC8 0 0 0 0 0 false (.slice none 0 0) (.slice none 0 0))) := (Row.grown R0.out hg HRG.out).alloc _
  have GG1 : Hid (w.grownBy (w1.alloc (.cells #[.int .u8 10, .int .u64 0, .int .u64 0, .int .u64 0, .int .u64 0, .bool false, .slice none 0 0, .slice none 0 0] 37)) (some g)) := gg.trans (grown_alloc _ _)
  have RD1 : Hid (Rr base g b0 e0 (w1.alloc (.cells #[.int .u8 10, .int .u64 0, .int .u64 0, .int .u64 0, .int .u64 0, .bool false, .slice none 0 0, .slice none 0 0] 37))) := hr.alloc HFB.out _
  clear hs hr hg gg hsz hlt hrw1 hnk KI R0 G0
  obtain ⟨c0, c1, c2, c3, c4, c5, c6, c7⟩ := frC8_cells RF1.out
  obtain ⟨y0, y1, y2, y3, y4, y5, y6, y7⟩ := frC8_cells RR1.out
  obtain ⟨z0, z1, z2, z3, z4, z5, z6, z7⟩ := frC8_fz RF1.out
  obtain ⟨x0, x1, x2, x3, x4, x5, x6, x7⟩ := frC8_fz RR1.out
  go_wp2_with fail
  refine (numberC RD1.out).mono ?_
  rintro xx w2 ⟨n1, b1, e1, rfl, hn, hs, hr, hg⟩
  have RF2 := veil (Row.grown (RF1.out : Row _ w1.heap.size 37 (frC8 10 0 0 0 0 false (.slice none 0 0) (.slice none 0 0))) hg HFG.out)
  have RR2 := veil (Row.grown RR1.out hg HRG.out)
  have GG2 := veil (GG1.out.trans hg)
  have RD2 := veil hr
  have HN1 := veil hn
  have S1 := veil hs
  clear hn hs
  clear c0 c1 c2 c3 c4 c5 c6 c7 y0 y1 y2 y3 y4 y5 y6 y7 z0 z1 z2 z3 z4 z5 z6 z7 x0 x1 x2 x3 x4 x5 x6 x7
  clear hr hg RF1 RR1 RD1
  obtain ⟨c0, c1, c2, c3, c4, c5, c6, c7⟩ := frC8_cells RF2.out
  obtain ⟨y0, y1, y2, y3, y4, y5, y6, y7⟩ := frC8_cells RR2.out
  obtain ⟨z0, z1, z2, z3, z4, z5, z6, z7⟩ := frC8_fz RF2.out
  obtain ⟨x0, x1, x2, x3, x4, x5, x6, x7⟩ := frC8_fz RR2.out
  obtain ⟨so, hso⟩ : ∃ so : Bool, decide ((1152921504606846976 : Int) < (n1 : Int)) = so := ⟨_, rfl⟩
  have HSO : Hid (so = true ↔ 1152921504606846976 < n1) := show _ ↔ _ by rw [← hso, decide_eq_true_iff]; omega
  go_wp2_with fail
  refine (wrongC (RD2.out.set HFB.out 3 (.int .u64 ((n1 : Nat) : Int))) so 5).mono ?_
  rintro xx w3 ⟨⟨vv, rfl⟩, hr, hg⟩
  have RF3 := veil (Row.grown ((RF2.out.set 3 (.int .u64 ((n1 : Nat) : Int))) : Row _ w1.heap.size 37 (frC8 10 0 0 n1 0 false (.slice none 0 0) (.slice none 0 0))) hg HFG.out)
  have RR3 := veil (Row.grown (RR2.out.other (a := ⟨w1.heap.size, 3, none⟩) HRF.out (.int .u64 ((n1 : Nat) : Int))) hg HRG.out)
  have GG3 := veil ((gset GG2.out HFW.out 3 (.int .u64 ((n1 : Nat) : Int))).trans hg)
  have RD3 := veil hr
  clear hso
  clear c0 c1 c2 c3 c4 c5 c6 c7 y0 y1 y2 y3 y4 y5 y6 y7 z0 z1 z2 z3 z4 z5 z6 z7 x0 x1 x2 x3 x4 x5 x6 x7
  clear hr hg RF2 RR2 RD2
  obtain ⟨c0, c1, c2, c3, c4, c5, c6, c7⟩ := frC8_cells RF3.out
  obtain ⟨y0, y1, y2, y3, y4, y5, y6, y7⟩ := frC8_cells RR3.out
  obtain ⟨z0, z1, z2, z3, z4, z5, z6, z7⟩ := frC8_fz RF3.out
  obtain ⟨x0, x1, x2, x3, x4, x5, x6, x7⟩ := frC8_fz RR3.out
  go_wp2_with fail
  have hfin : Fin base g w _ (w.heap.size) 10 0 0 n1 0 false (.slice none 0 0) [] _ _ := ⟨RD3.out, GG3.out, RR3.out, HRW.out, HRB.out, World.ownsRow_nil _ _ _ _, (fun z hz => by cases hz), by decide, Nat.zero_le _, Nat.zero_le _, HN1.out, Nat.zero_le _⟩
  obtain ⟨F, q1, q2, q3, q4, q5, q6⟩ := hfin.done
  refine bodyPost_ret (result_frame rfl _ _ (w.heap.size) _ _ q6 8 _ rfl Tryz.underlying37 (by kernel_rfl) rfl) rfl ⟨F, _, _, by rw [q1], q3, ?_, q4, q5⟩
  rw [q2, Fr.frameR_kind]
  exact Fr.sim_then S0.out (show Fr.Sim (Fr.bodyR 18) _ _ _ _ _ from Fr.sim_then S1.out (Fr.sim_wrong so HSO.out (by decide) (Fr.sim_ok _ _ _)))

set_option maxRecDepth 20000 in
set_option maxHeartbeats 2000000 in
theorem frame19 {base g : Nat} {b : List By} {w : World} (h : Rr base g b 0 w) (hb : base ≤ w.heap.size) (hk : (rdN b 0).1 = 19) :
    Calls Tryz.prog 71 #[.pointer (some ⟨g, 0, none⟩)] w fun x w' => FrOut base g Fr.frameR b 0 w x w' := by
  obtain ⟨W0, hW0⟩ : ∃ W, W = w.alloc (.cells (frC8 0 0 0 0 0 false (.slice none 0 0) (.slice none 0 0)) 37) := ⟨_, rfl⟩
  have r0 : Row W0 w.heap.size 37 (frC8 0 0 0 0 0 false (.slice none 0 0) (.slice none 0 0)) := by rw [hW0]; exact Row.new _ _ _
  have g0 : w.grownBy W0 (some g) := by rw [hW0]; exact grown_alloc _ _
  have KI := veil (kindC (show Rr base g b 0 W0 by rw [hW0]; exact h.alloc hb _))
  have hlt := h.lt
  have HLT := veil hlt
  have HRG := veil (show w.heap.size ≠ g by omega)
  have HRW := veil (Nat.le_refl w.heap.size)
  have HRB := veil hb
  have G0 := veil g0
  have R0 := veil r0
  have HK := veil hk
  clear r0 g0 h hb hlt hk
  go_enter Tryz.func71, Tryz.ntmps71
  go_wp2_with fail
  show Calls _ _ _ (w.alloc (.cells (frC8 0 0 0 0 0 false (.slice none 0 0) (.slice none 0 0)) 37)) _
  rw [← hW0]
  clear hW0
  refine KI.out.mono ?_
  rintro xx w1 ⟨nk, b0, e0, rfl, hnk, hs, hr, hg⟩
  obtain rfl : nk = 19 := by rw [hnk, HK.out]
  have S0 := veil hs
  have gg := G0.out.trans hg
  have hsz := gg.size
  have hlt := HLT.out
  have HFW := veil hsz
  have HFB := veil (show base ≤ w1.heap.size by have := HRB.out; omega)
  have hrw1 := (Row.grown R0.out hg HRG.out).lt
  have HRF := veil (show w.heap.size ≠ w1.heap.size by omega)
  have HFG := veil (show w1.heap.size ≠ g by omega)
  have hrf : w.heap.size ≠ w1.heap.size := HRF.out
  have RF1 : Hid (Row (w1.alloc (.cells #[.int .u8 10, .int .u64 0, .int .u64 0, .int .u64 0, .int .u64 0, .bool true, .slice none 0 0, .slice none 0 0] 37)) w1.heap.size 37 (frC8 10 0 0 0 0 true (.slice none 0 0) (.slice none 0 0))) := Row.new _ _ _
  have RR1 : Hid (Row (w1.alloc (.cells #[.int .u8 10, .int .u64 0, .int .u64 0, .int .u64 0, .int .u64 0, .bool true, .slice none 0 0, .slice none 0 0] 37)) w.heap.size 37 (frC8 0 0 0 0 0 false (.slice none 0 0) (.slice none 0 0))) := (Row.grown R0.out hg HRG.out).alloc _
  have GG1 : Hid (w.grownBy (w1.alloc (.cells #[.int .u8 10, .int .u64 0, .int .u64 0, .int .u64 0, .int .u64 0, .bool true, .slice none 0 0, .slice none 0 0] 37)) (some g)) := gg.trans (grown_alloc _ _)
  have RD1 : Hid (Rr base g b0 e0 (w1.alloc (.cells #[.int .u8 10, .int .u64 0, .int .u64 0, .int .u64 0, .int .u64 0, .bool true, .slice none 0 0, .slice none 0 0] 37))) := hr.alloc HFB.out _
  clear hs hr hg gg hsz hlt hrw1 hnk KI R0 G0
  obtain ⟨c0, c1, c2, c3, c4, c5, c6, c7⟩ := frC8_cells RF1.out
  obtain ⟨y0, y1, y2, y3, y4, y5, y6, y7⟩ := frC8_cells RR1.out
  obtain ⟨z0, z1, z2, z3, z4, z5, z6, z7⟩ := frC8_fz RF1.out
  obtain ⟨x0, x1, x2, x3, x4, x5, x6, x7⟩ := frC8_fz RR1.out
  go_wp2_with fail
  refine (numberC RD1.out).mono ?_
  rintro xx w2 ⟨n1, b1, e1, rfl, hn, hs, hr, hg⟩
  have RF2 := veil (Row.grown (RF1.out : Row _ w1.heap.size 37 (frC8 10 0 0 0 0 true (.slice none 0 0) (.slice none 0 0))) hg HFG.out)
  have RR2 := veil (Row.grown RR1.out hg HRG.out)
  have GG2 := veil (GG1.out.trans hg)
  have RD2 := veil hr
  have HN1 := veil hn
  have S1 := veil hs
  clear hn hs
  clear c0 c1 c2 c3 c4 c5 c6 c7 y0 y1 y2 y3 y4 y5 y6 y7 z0 z1 z2 z3 z4 z5 z6 z7 x0 x1 x2 x3 x4 x5 x6 x7
  clear hr hg RF1 RR1 RD1
  obtain ⟨c0, c1, c2, c3, c4, c5, c6, c7⟩ := frC8_cells RF2.out
  obtain ⟨y0, y1, y2, y3, y4, y5, y6, y7⟩ := frC8_cells RR2.out
  obtain ⟨z0, z1, z2, z3, z4, z5, z6, z7⟩ := frC8_fz RF2.out
  obtain ⟨x0, x1, x2, x3, x4, x5, x6, x7⟩ := frC8_fz RR2.out
  obtain ⟨so, hso⟩ : ∃ so : Bool, decide ((1152921504606846976 : Int) < (n1 : Int)) = so := ⟨_, rfl⟩
  have HSO : Hid (so = true ↔ 1152921504606846976 < n1) := show _ ↔ _ by rw [← hso, decide_eq_true_iff]; omega
  go_wp2_with fail
  refine (wrongC (RD2.out.set HFB.out 3 (.int .u64 ((n1 : Nat) : Int))) so 5).mono ?_
  rintro xx w3 ⟨⟨vv, rfl⟩, hr, hg⟩
  have RF3 := veil (Row.grown ((RF2.out.set 3 (.int .u64 ((n1 : Nat) : Int))) : Row _ w1.heap.size 37 (frC8 10 0 0 n1 0 true (.slice none 0 0) (.slice none 0 0))) hg HFG.out)
  have RR3 := veil (Row.grown (RR2.out.other (a := ⟨w1.heap.size, 3, none⟩) HRF.out (.int .u64 ((n1 : Nat) : Int))) hg HRG.out)
  have GG3 := veil ((gset GG2.out HFW.out 3 (.int .u64 ((n1 : Nat) : Int))).trans hg)
  have RD3 := veil hr
  clear hso
  clear c0 c1 c2 c3 c4 c5 c6 c7 y0 y1 y2 y3 y4 y5 y6 y7 z0 z1 z2 z3 z4 z5 z6 z7 x0 x1 x2 x3 x4 x5 x6 x7
  clear hr hg RF2 RR2 RD2
  obtain ⟨c0, c1, c2, c3, c4, c5, c6, c7⟩ := frC8_cells RF3.out
  obtain ⟨y0, y1, y2, y3, y4, y5, y6, y7⟩ := frC8_cells RR3.out
  obtain ⟨z0, z1, z2, z3, z4, z5, z6, z7⟩ := frC8_fz RF3.out
  obtain ⟨x0, x1, x2, x3, x4, x5, x6, x7⟩ := frC8_fz RR3.out
  go_wp2_with fail
  have hfin : Fin base g w _ (w.heap.size) 10 0 0 n1 0 true (.slice none 0 0) [] _ _ := ⟨RD3.out, GG3.out, RR3.out, HRW.out, HRB.out, World.ownsRow_nil _ _ _ _, (fun z hz => by cases hz), by decide, Nat.zero_le _, Nat.zero_le _, HN1.out, Nat.zero_le _⟩
  obtain ⟨F, q1, q2, q3, q4, q5, q6⟩ := hfin.done
  refine bodyPost_ret (result_frame rfl _ _ (w.heap.size) _ _ q6 8 _ rfl Tryz.underlying37 (by kernel_rfl) rfl) rfl ⟨F, _, _, by rw [q1], q3, ?_, q4, q5⟩
  rw [q2, Fr.frameR_kind]
  exact Fr.sim_then S0.out (show Fr.Sim (Fr.bodyR 19) _ _ _ _ _ from Fr.sim_then S1.out (Fr.sim_wrong so HSO.out (by decide) (Fr.sim_ok _ _ _)))

set_option maxRecDepth 20000 in
set_option maxHeartbeats 2000000 in
theorem frame20 {base g : Nat} {b : List By} {w : World} (h : Rr base g b 0 w) (hb : base ≤ w.heap.size) (hk : (rdN b 0).1 = 20) :
    Calls Tryz.prog 71 #[.pointer (some ⟨g, 0, none⟩)] w fun x w' => FrOut base g Fr.frameR b 0 w x w' := by
  obtain ⟨W0, hW0⟩ : ∃ W, W = w.alloc (.cells (frC8 0 0 0 0 0 false (.slice none 0 0) (.slice none 0 0)) 37) := ⟨_, rfl⟩
  have r0 : Row W0 w.heap.size 37 (frC8 0 0 0 0 0 false (.slice none 0 0) (.slice none 0 0)) := by rw [hW0]; exact Row.new _ _ _
  have g0 : w.grownBy W0 (some g) := by rw [hW0]; exact grown_alloc _ _
  have KI := veil (kindC (show Rr base g b 0 W0 by rw [hW0]; exact h.alloc hb _))
  have hlt := h.lt
  have HLT := veil hlt
  have HRG := veil (show w.heap.size ≠ g by omega)
  have HRW := veil (Nat.le_refl w.heap.size)
  have HRB := veil hb
  have G0 := veil g0
  have R0 := veil r0
  have HK := veil hk
  clear r0 g0 h hb hlt hk
  go_enter Tryz.func71, Tryz.ntmps71
  go_wp2_with fail
  show Calls _ _ _ (w.alloc (.cells (frC8 0 0 0 0 0 false (.slice none 0 0) (.slice none 0 0)) 37)) _
  rw [← hW0]
  clear hW0
  refine KI.out.mono ?_
  rintro xx w1 ⟨nk, b0, e0, rfl, hnk, hs, hr, hg⟩
  obtain rfl : nk = 20 := by rw [hnk, HK.out]
  have S0 := veil hs
  have gg := G0.out.trans hg
  have hsz := gg.size
  have hlt := HLT.out
  have HFW := veil hsz
  have HFB := veil (show base ≤ w1.heap.size by have := HRB.out; omega)
  have hrw1 := (Row.grown R0.out hg HRG.out).lt
  have HRF := veil (show w.heap.size ≠ w1.heap.size by omega)
  have HFG := veil (show w1.heap.size ≠ g by omega)
  have hrf : w.heap.size ≠ w1.heap.size := HRF.out
  have RF1 : Hid (Row (w1.alloc (.cells #[.int .u8 11, .int .u64 0, .int .u64 0, .int .u64 0, .int .u64 0, .bool false, .slice none 0 0, .slice none 0 0] 37)) w1.heap.size 37 (frC8 11 0 0 0 0 false (.slice none 0 0) (.slice none 0 0))) := Row.new _ _ _
  have RR1 : Hid (Row (w1.alloc (.cells #[.int .u8 11, .int .u64 0, .int .u64 0, .int .u64 0, .int .u64 0, .bool false, .slice none 0 0, .slice none 0 0] 37)) w.heap.size 37 (frC8 0 0 0 0 0 false (.slice none 0 0) (.slice none 0 0))) := (Row.grown R0.out hg HRG.out).alloc _
  have GG1 : Hid (w.grownBy (w1.alloc (.cells #[.int .u8 11, .int .u64 0, .int .u64 0, .int .u64 0, .int .u64 0, .bool false, .slice none 0 0, .slice none 0 0] 37)) (some g)) := gg.trans (grown_alloc _ _)
  have RD1 : Hid (Rr base g b0 e0 (w1.alloc (.cells #[.int .u8 11, .int .u64 0, .int .u64 0, .int .u64 0, .int .u64 0, .bool false, .slice none 0 0, .slice none 0 0] 37))) := hr.alloc HFB.out _
  clear hs hr hg gg hsz hlt hrw1 hnk KI R0 G0
  obtain ⟨c0, c1, c2, c3, c4, c5, c6, c7⟩ := frC8_cells RF1.out
  obtain ⟨y0, y1, y2, y3, y4, y5, y6, y7⟩ := frC8_cells RR1.out
  obtain ⟨z0, z1, z2, z3, z4, z5, z6, z7⟩ := frC8_fz RF1.out
  obtain ⟨x0, x1, x2, x3, x4, x5, x6, x7⟩ := frC8_fz RR1.out
  go_wp2_with fail
  refine (numberC RD1.out).mono ?_
  rintro xx w2 ⟨n1, b1, e1, rfl, hn, hs, hr, hg⟩
  have RF2 := veil (Row.grown (RF1.out : Row _ w1.heap.size 37 (frC8 11 0 0 0 0 false (.slice none 0 0) (.slice none 0 0))) hg HFG.out)
  have RR2 := veil (Row.grown RR1.out hg HRG.out)
  have GG2 := veil (GG1.out.trans hg)
  have RD2 := veil hr
  have HN1 := veil hn
  have S1 := veil hs
  clear hn hs
  clear c0 c1 c2 c3 c4 c5 c6 c7 y0 y1 y2 y3 y4 y5 y6 y7 z0 z1 z2 z3 z4 z5 z6 z7 x0 x1 x2 x3 x4 x5 x6 x7
  clear hr hg RF1 RR1 RD1
  obtain ⟨c0, c1, c2, c3, c4, c5, c6, c7⟩ := frC8_cells RF2.out
  obtain ⟨y0, y1, y2, y3, y4, y5, y6, y7⟩ := frC8_cells RR2.out
  obtain ⟨z0, z1, z2, z3, z4, z5, z6, z7⟩ := frC8_fz RF2.out
  obtain ⟨x0, x1, x2, x3, x4, x5, x6, x7⟩ := frC8_fz RR2.out
  go_wp2_with fail
  have hfin : Fin base g w _ (w.heap.size) 11 0 0 n1 0 false (.slice none 0 0) [] _ _ := ⟨(RD2.out.set HFB.out 3 (.int .u64 ((n1 : Nat) : Int))), (gset GG2.out HFW.out 3 (.int .u64 ((n1 : Nat) : Int))), (RR2.out.other (a := ⟨w1.heap.size, 3, none⟩) HRF.out (.int .u64 ((n1 : Nat) : Int))), HRW.out, HRB.out, World.ownsRow_nil _ _ _ _, (fun z hz => by cases hz), by decide, Nat.zero_le _, Nat.zero_le _, HN1.out, Nat.zero_le _⟩
  obtain ⟨F, q1, q2, q3, q4, q5, q6⟩ := hfin.done
  refine bodyPost_ret (result_frame rfl _ _ (w.heap.size) _ _ q6 8 _ rfl Tryz.underlying37 (by kernel_rfl) rfl) rfl ⟨F, _, _, by rw [q1], q3, ?_, q4, q5⟩
  rw [q2, Fr.frameR_kind]
  exact Fr.sim_then S0.out (show Fr.Sim (Fr.bodyR 20) _ _ _ _ _ from (Fr.sim_then S1.out (Fr.sim_ok _ _ _)))

set_option maxRecDepth 20000 in
set_option maxHeartbeats 2000000 in
theorem frame21 {base g : Nat} {b : List By} {w : World} (h : Rr base g b 0 w) (hb : base ≤ w.heap.size) (hk : (rdN b 0).1 = 21) :
    Calls Tryz.prog 71 #[.pointer (some ⟨g, 0, none⟩)] w fun x w' => FrOut base g Fr.frameR b 0 w x w' := by
  obtain ⟨W0, hW0⟩ : ∃ W, W = w.alloc (.cells (frC8 0 0 0 0 0 false (.slice none 0 0) (.slice none 0 0)) 37) := ⟨_, rfl⟩
  have r0 : Row W0 w.heap.size 37 (frC8 0 0 0 0 0 false (.slice none 0 0) (.slice none 0 0)) := by rw [hW0]; exact Row.new _ _ _
  have g0 : w.grownBy W0 (some g) := by rw [hW0]; exact grown_alloc _ _
  have KI := veil (kindC (show Rr base g b 0 W0 by rw [hW0]; exact h.alloc hb _))
  have hlt := h.lt
  have HLT := veil hlt
  have HRG := veil (show w.heap.size ≠ g by omega)
  have HRW := veil (Nat.le_refl w.heap.size)
  have HRB := veil hb
  have G0 := veil g0
  have R0 := veil r0
  have HK := veil hk
  clear r0 g0 h hb hlt hk
  go_enter Tryz.func71, Tryz.ntmps71
  go_wp2_with fail
  show Calls _ _ _ (w.alloc (.cells (frC8 0 0 0 0 0 false (.slice none 0 0) (.slice none 0 0)) 37)) _
  rw [← hW0]
  clear hW0
  refine KI.out.mono ?_
  rintro xx w1 ⟨nk, b0, e0, rfl, hnk, hs, hr, hg⟩
  obtain rfl : nk = 21 := by rw [hnk, HK.out]
  have S0 := veil hs
  have gg := G0.out.trans hg
  have hsz := gg.size
  have hlt := HLT.out
  have HFW := veil hsz
  have HFB := veil (show base ≤ w1.heap.size by have := HRB.out; omega)
  have hrw1 := (Row.grown R0.out hg HRG.out).lt
  have HRF := veil (show w.heap.size ≠ w1.heap.size by omega)
  have HFG := veil (show w1.heap.size ≠ g by omega)
  have hrf : w.heap.size ≠ w1.heap.size := HRF.out
  have RF1 : Hid (Row (w1.alloc (.cells #[.int .u8 12, .int .u64 0, .int .u64 0, .int .u64 0, .int .u64 0, .bool false, .slice none 0 0, .slice none 0 0] 37)) w1.heap.size 37 (frC8 12 0 0 0 0 false (.slice none 0 0) (.slice none 0 0))) := Row.new _ _ _
  have RR1 : Hid (Row (w1.alloc (.cells #[.int .u8 12, .int .u64 0, .int .u64 0, .int .u64 0, .int .u64 0, .bool false, .slice none 0 0, .slice none 0 0] 37)) w.heap.size 37 (frC8 0 0 0 0 0 false (.slice none 0 0) (.slice none 0 0))) := (Row.grown R0.out hg HRG.out).alloc _
  have GG1 : Hid (w.grownBy (w1.alloc (.cells #[.int .u8 12, .int .u64 0, .int .u64 0, .int .u64 0, .int .u64 0, .bool false, .slice none 0 0, .slice none 0 0] 37)) (some g)) := gg.trans (grown_alloc _ _)
  have RD1 : Hid (Rr base g b0 e0 (w1.alloc (.cells #[.int .u8 12, .int .u64 0, .int .u64 0, .int .u64 0, .int .u64 0, .bool false, .slice none 0 0, .slice none 0 0] 37))) := hr.alloc HFB.out _
  clear hs hr hg gg hsz hlt hrw1 hnk KI R0 G0
  obtain ⟨c0, c1, c2, c3, c4, c5, c6, c7⟩ := frC8_cells RF1.out
  obtain ⟨y0, y1, y2, y3, y4, y5, y6, y7⟩ := frC8_cells RR1.out
  obtain ⟨z0, z1, z2, z3, z4, z5, z6, z7⟩ := frC8_fz RF1.out
  obtain ⟨x0, x1, x2, x3, x4, x5, x6, x7⟩ := frC8_fz RR1.out
  go_wp2_with fail
  refine (numberC RD1.out).mono ?_
  rintro xx w2 ⟨n1, b1, e1, rfl, hn, hs, hr, hg⟩
  have RF2 := veil (Row.grown (RF1.out : Row _ w1.heap.size 37 (frC8 12 0 0 0 0 false (.slice none 0 0) (.slice none 0 0))) hg HFG.out)
  have RR2 := veil (Row.grown RR1.out hg HRG.out)
  have GG2 := veil (GG1.out.trans hg)
  have RD2 := veil hr
  have HN1 := veil hn
  have S1 := veil hs
  clear hn hs
  clear c0 c1 c2 c3 c4 c5 c6 c7 y0 y1 y2 y3 y4 y5 y6 y7 z0 z1 z2 z3 z4 z5 z6 z7 x0 x1 x2 x3 x4 x5 x6 x7
  clear hr hg RF1 RR1 RD1
  obtain ⟨c0, c1, c2, c3, c4, c5, c6, c7⟩ := frC8_cells RF2.out
  obtain ⟨y0, y1, y2, y3, y4, y5, y6, y7⟩ := frC8_cells RR2.out
  obtain ⟨z0, z1, z2, z3, z4, z5, z6, z7⟩ := frC8_fz RF2.out
  obtain ⟨x0, x1, x2, x3, x4, x5, x6, x7⟩ := frC8_fz RR2.out
  go_wp2_with fail
  refine (numberC (RD2.out.set HFB.out 1 (.int .u64 ((n1 : Nat) : Int)))).mono ?_
  rintro xx w3 ⟨n2, b2, e2, rfl, hn, hs, hr, hg⟩
  have RF3 := veil (Row.grown ((RF2.out.set 1 (.int .u64 ((n1 : Nat) : Int))) : Row _ w1.heap.size 37 (frC8 12 n1 0 0 0 false (.slice none 0 0) (.slice none 0 0))) hg HFG.out)
  have RR3 := veil (Row.grown (RR2.out.other (a := ⟨w1.heap.size, 1, none⟩) HRF.out (.int .u64 ((n1 : Nat) : Int))) hg HRG.out)
  have GG3 := veil ((gset GG2.out HFW.out 1 (.int .u64 ((n1 : Nat) : Int))).trans hg)
  have RD3 := veil hr
  have HN2 := veil hn
  have S2 := veil hs
  clear hn hs
  clear c0 c1 c2 c3 c4 c5 c6 c7 y0 y1 y2 y3 y4 y5 y6 y7 z0 z1 z2 z3 z4 z5 z6 z7 x0 x1 x2 x3 x4 x5 x6 x7
  clear hr hg RF2 RR2 RD2
  obtain ⟨c0, c1, c2, c3, c4, c5, c6, c7⟩ := frC8_cells RF3.out
  obtain ⟨y0, y1, y2, y3, y4, y5, y6, y7⟩ := frC8_cells RR3.out
  obtain ⟨z0, z1, z2, z3, z4, z5, z6, z7⟩ := frC8_fz RF3.out
  obtain ⟨x0, x1, x2, x3, x4, x5, x6, x7⟩ := frC8_fz RR3.out
  go_wp2_with fail
  have hfin : Fin base g w _ (w.heap.size) 12 n1 0 n2 0 false (.slice none 0 0) [] _ _ := ⟨(RD3.out.set HFB.out 3 (.int .u64 ((n2 : Nat) : Int))), (gset GG3.out HFW.out 3 (.int .u64 ((n2 : Nat) : Int))), (RR3.out.other (a := ⟨w1.heap.size, 3, none⟩) HRF.out (.int .u64 ((n2 : Nat) : Int))), HRW.out, HRB.out, World.ownsRow_nil _ _ _ _, (fun z hz => by cases hz), by decide, HN1.out, Nat.zero_le _, HN2.out, Nat.zero_le _⟩
  obtain ⟨F, q1, q2, q3, q4, q5, q6⟩ := hfin.done
  refine bodyPost_ret (result_frame rfl _ _ (w.heap.size) _ _ q6 8 _ rfl Tryz.underlying37 (by kernel_rfl) rfl) rfl ⟨F, _, _, by rw [q1], q3, ?_, q4, q5⟩
  rw [q2, Fr.frameR_kind]
  exact Fr.sim_then S0.out (show Fr.Sim (Fr.bodyR 21) _ _ _ _ _ from (Fr.sim_then S1.out (Fr.sim_then S2.out (Fr.sim_ok _ _ _))))

set_option maxRecDepth 20000 in
set_option maxHeartbeats 2000000 in
theorem frame28 {base g : Nat} {b : List By} {w : World} (h : Rr base g b 0 w) (hb : base ≤ w.heap.size) (hk : (rdN b 0).1 = 28) :
    Calls Tryz.prog 71 #[.pointer (some ⟨g, 0, none⟩)] w fun x w' => FrOut base g Fr.frameR b 0 w x w' := by
  obtain ⟨W0, hW0⟩ : ∃ W, W = w.alloc (.cells (frC8 0 0 0 0 0 false (.slice none 0 0) (.slice none 0 0)) 37) := ⟨_, rfl⟩
  have r0 : Row W0 w.heap.size 37 (frC8 0 0 0 0 0 false (.slice none 0 0) (.slice none 0 0)) := by rw [hW0]; exact Row.new _ _ _
  have g0 : w.grownBy W0 (some g) := by rw [hW0]; exact grown_alloc _ _
  have KI := veil (kindC (show Rr base g b 0 W0 by rw [hW0]; exact h.alloc hb _))
  have hlt := h.lt
  have HLT := veil hlt
  have HRG := veil (show w.heap.size ≠ g by omega)
  have HRW := veil (Nat.le_refl w.heap.size)
  have HRB := veil hb
  have G0 := veil g0
  have R0 := veil r0
  have HK := veil hk
  clear r0 g0 h hb hlt hk
  go_enter Tryz.func71, Tryz.ntmps71
  go_wp2_with fail
  show Calls _ _ _ (w.alloc (.cells (frC8 0 0 0 0 0 false (.slice none 0 0) (.slice none 0 0)) 37)) _
  rw [← hW0]
  clear hW0
  refine KI.out.mono ?_
  rintro xx w1 ⟨nk, b0, e0, rfl, hnk, hs, hr, hg⟩
  obtain rfl : nk = 28 := by rw [hnk, HK.out]
  have S0 := veil hs
  have gg := G0.out.trans hg
  have hsz := gg.size
  have hlt := HLT.out
  have HFW := veil hsz
  have HFB := veil (show base ≤ w1.heap.size by have := HRB.out; omega)
  have hrw1 := (Row.grown R0.out hg HRG.out).lt
  have HRF := veil (show w.heap.size ≠ w1.heap.size by omega)
  have HFG := veil (show w1.heap.size ≠ g by omega)
  have hrf : w.heap.size ≠ w1.heap.size := HRF.out
  have RF1 : Hid (Row (w1.alloc (.cells #[.int .u8 13, .int .u64 0, .int .u64 0, .int .u64 0, .int .u64 0, .bool false, .slice none 0 0, .slice none 0 0] 37)) w1.heap.size 37 (frC8 13 0 0 0 0 false (.slice none 0 0) (.slice none 0 0))) := Row.new _ _ _
  have RR1 : Hid (Row (w1.alloc (.cells #[.int .u8 13, .int .u64 0, .int .u64 0, .int .u64 0, .int .u64 0, .bool false, .slice none 0 0, .slice none 0 0] 37)) w.heap.size 37 (frC8 0 0 0 0 0 false (.slice none 0 0) (.slice none 0 0))) := (Row.grown R0.out hg HRG.out).alloc _
  have GG1 : Hid (w.grownBy (w1.alloc (.cells #[.int .u8 13, .int .u64 0, .int .u64 0, .int .u64 0, .int .u64 0, .bool false, .slice none 0 0, .slice none 0 0] 37)) (some g)) := gg.trans (grown_alloc _ _)
  have RD1 : Hid (Rr base g b0 e0 (w1.alloc (.cells #[.int .u8 13, .int .u64 0, .int .u64 0, .int .u64 0, .int .u64 0, .bool false, .slice none 0 0, .slice none 0 0] 37))) := hr.alloc HFB.out _
  clear hs hr hg gg hsz hlt hrw1 hnk KI R0 G0
  obtain ⟨c0, c1, c2, c3, c4, c5, c6, c7⟩ := frC8_cells RF1.out
  obtain ⟨y0, y1, y2, y3, y4, y5, y6, y7⟩ := frC8_cells RR1.out
  obtain ⟨z0, z1, z2, z3, z4, z5, z6, z7⟩ := frC8_fz RF1.out
  obtain ⟨x0, x1, x2, x3, x4, x5, x6, x7⟩ := frC8_fz RR1.out
  go_wp2_with fail
  refine (numberC RD1.out).mono ?_
  rintro xx w2 ⟨n1, b1, e1, rfl, hn, hs, hr, hg⟩
  have RF2 := veil (Row.grown (RF1.out : Row _ w1.heap.size 37 (frC8 13 0 0 0 0 false (.slice none 0 0) (.slice none 0 0))) hg HFG.out)
  have RR2 := veil (Row.grown RR1.out hg HRG.out)
  have GG2 := veil (GG1.out.trans hg)
  have RD2 := veil hr
  have HN1 := veil hn
  have S1 := veil hs
  clear hn hs
  clear c0 c1 c2 c3 c4 c5 c6 c7 y0 y1 y2 y3 y4 y5 y6 y7 z0 z1 z2 z3 z4 z5 z6 z7 x0 x1 x2 x3 x4 x5 x6 x7
  clear hr hg RF1 RR1 RD1
  obtain ⟨c0, c1, c2, c3, c4, c5, c6, c7⟩ := frC8_cells RF2.out
  obtain ⟨y0, y1, y2, y3, y4, y5, y6, y7⟩ := frC8_cells RR2.out
  obtain ⟨z0, z1, z2, z3, z4, z5, z6, z7⟩ := frC8_fz RF2.out
  obtain ⟨x0, x1, x2, x3, x4, x5, x6, x7⟩ := frC8_fz RR2.out
  go_wp2_with fail
  refine (numberC (RD2.out.set HFB.out 4 (.int .u64 ((n1 : Nat) : Int)))).mono ?_
  rintro xx w3 ⟨n2, b2, e2, rfl, hn, hs, hr, hg⟩
  have RF3 := veil (Row.grown ((RF2.out.set 4 (.int .u64 ((n1 : Nat) : Int))) : Row _ w1.heap.size 37 (frC8 13 0 0 0 n1 false (.slice none 0 0) (.slice none 0 0))) hg HFG.out)
  have RR3 := veil (Row.grown (RR2.out.other (a := ⟨w1.heap.size, 4, none⟩) HRF.out (.int .u64 ((n1 : Nat) : Int))) hg HRG.out)
  have GG3 := veil ((gset GG2.out HFW.out 4 (.int .u64 ((n1 : Nat) : Int))).trans hg)
  have RD3 := veil hr
  have HN2 := veil hn
  have S2 := veil hs
  clear hn hs
  clear c0 c1 c2 c3 c4 c5 c6 c7 y0 y1 y2 y3 y4 y5 y6 y7 z0 z1 z2 z3 z4 z5 z6 z7 x0 x1 x2 x3 x4 x5 x6 x7
  clear hr hg RF2 RR2 RD2
  obtain ⟨c0, c1, c2, c3, c4, c5, c6, c7⟩ := frC8_cells RF3.out
  obtain ⟨y0, y1, y2, y3, y4, y5, y6, y7⟩ := frC8_cells RR3.out
  obtain ⟨z0, z1, z2, z3, z4, z5, z6, z7⟩ := frC8_fz RF3.out
  obtain ⟨x0, x1, x2, x3, x4, x5, x6, x7⟩ := frC8_fz RR3.out
  obtain ⟨so, hso⟩ : ∃ so : Bool, ((n2 : Int) != 0) = so := ⟨_, rfl⟩
  have HSO : Hid (so = true ↔ ¬ n2 = 0) := show _ ↔ _ by rw [← hso]; simp
  go_wp2_with fail
  refine (wrongC RD3.out so 5).mono ?_
  rintro xx w4 ⟨⟨vv, rfl⟩, hr, hg⟩
  have RF4 := veil (Row.grown (RF3.out : Row _ w1.heap.size 37 (frC8 13 0 0 0 n1 false (.slice none 0 0) (.slice none 0 0))) hg HFG.out)
  have RR4 := veil (Row.grown RR3.out hg HRG.out)
  have GG4 := veil (GG3.out.trans hg)
  have RD4 := veil hr
  clear hso
  clear c0 c1 c2 c3 c4 c5 c6 c7 y0 y1 y2 y3 y4 y5 y6 y7 z0 z1 z2 z3 z4 z5 z6 z7 x0 x1 x2 x3 x4 x5 x6 x7
  clear hr hg RF3 RR3 RD3
  obtain ⟨c0, c1, c2, c3, c4, c5, c6, c7⟩ := frC8_cells RF4.out
  obtain ⟨y0, y1, y2, y3, y4, y5, y6, y7⟩ := frC8_cells RR4.out
  obtain ⟨z0, z1, z2, z3, z4, z5, z6, z7⟩ := frC8_fz RF4.out
  obtain ⟨x0, x1, x2, x3, x4, x5, x6, x7⟩ := frC8_fz RR4.out
  go_wp2_with fail
  refine (placedC RD4.out 0 (Nat.zero_le _)).mono ?_
  rintro xx w5 ⟨a, k, c, L, b3, e3, rfl, hd, hs, hr, hg⟩
  have RF5 := veil (Row.grown (RF4.out : Row _ w1.heap.size 37 (frC8 13 0 0 0 n1 false (.slice none 0 0) (.slice none 0 0))) hg HFG.out)
  have RR5 := veil (Row.grown RR4.out hg HRG.out)
  have GG5 := veil (GG4.out.trans hg)
  have RD5 := veil hr
  have GZ := veil (show w.heap.size ≤ _ from GG4.out.size)
  have HDF : Hid (∀ z, (Value.slice a k c).ownBlock = some z → z ≠ w1.heap.size) := fun z hz => by have h1 := (hd.lt z hz).1; have h2 := (RF4.out : Row _ w1.heap.size 37 (frC8 13 0 0 0 n1 false (.slice none 0 0) (.slice none 0 0))).lt; intro q; rw [q] at h1; (try simp at h1 h2); omega
  have HDR : Hid (∀ z, (Value.slice a k c).ownBlock = some z → z ≠ w.heap.size) := fun z hz => by have h1 := (hd.lt z hz).1; have h2 := RR4.out.lt; intro q; rw [q] at h1; (try simp at h1 h2); omega
  have DR5 := veil (show RowK w.heap.size L _ _ from own_low hd GZ.out)
  have S3 := veil hs
  clear hd hs
  clear c0 c1 c2 c3 c4 c5 c6 c7 y0 y1 y2 y3 y4 y5 y6 y7 z0 z1 z2 z3 z4 z5 z6 z7 x0 x1 x2 x3 x4 x5 x6 x7
  clear hr hg RF4 RR4 RD4
  obtain ⟨c0, c1, c2, c3, c4, c5, c6, c7⟩ := frC8_cells RF5.out
  obtain ⟨y0, y1, y2, y3, y4, y5, y6, y7⟩ := frC8_cells RR5.out
  obtain ⟨z0, z1, z2, z3, z4, z5, z6, z7⟩ := frC8_fz RF5.out
  obtain ⟨x0, x1, x2, x3, x4, x5, x6, x7⟩ := frC8_fz RR5.out
  go_wp2_with fail
  have hfin : Fin base g w _ (w.heap.size) 13 0 0 0 n1 false (.slice a k c) L _ _ := ⟨(RD5.out.set HFB.out 6 (.slice a k c)), (gset GG5.out HFW.out 6 (.slice a k c)), (RR5.out.other (a := ⟨w1.heap.size, 6, none⟩) HRF.out (.slice a k c)), HRW.out, HRB.out, (own_set DR5.out (w1.heap.size) 6 (.slice a k c) HDF.out), HDR.out, by decide, Nat.zero_le _, Nat.zero_le _, Nat.zero_le _, HN1.out⟩
  obtain ⟨F, q1, q2, q3, q4, q5, q6⟩ := hfin.done
  refine bodyPost_ret (result_frame rfl _ _ (w.heap.size) _ _ q6 8 _ rfl Tryz.underlying37 (by kernel_rfl) rfl) rfl ⟨F, _, _, by rw [q1], q3, ?_, q4, q5⟩
  rw [q2, Fr.frameR_kind]
  exact Fr.sim_then S0.out (show Fr.Sim (Fr.bodyR 28) _ _ _ _ _ from Fr.sim_then S1.out (Fr.sim_then S2.out (sim_wrongN so HSO.out (by decide) (Fr.sim_then S3.out (Fr.sim_ok _ _ _)))))

set_option maxRecDepth 20000 in
set_option maxHeartbeats 2000000 in
theorem frame29 {base g : Nat} {b : List By} {w : World} (h : Rr base g b 0 w) (hb : base ≤ w.heap.size) (hk : (rdN b 0).1 = 29) :
    Calls Tryz.prog 71 #[.pointer (some ⟨g, 0, none⟩)] w fun x w' => FrOut base g Fr.frameR b 0 w x w' := by
  obtain ⟨W0, hW0⟩ : ∃ W, W = w.alloc (.cells (frC8 0 0 0 0 0 false (.slice none 0 0) (.slice none 0 0)) 37) := ⟨_, rfl⟩
  have r0 : Row W0 w.heap.size 37 (frC8 0 0 0 0 0 false (.slice none 0 0) (.slice none 0 0)) := by rw [hW0]; exact Row.new _ _ _
  have g0 : w.grownBy W0 (some g) := by rw [hW0]; exact grown_alloc _ _
  have KI := veil (kindC (show Rr base g b 0 W0 by rw [hW0]; exact h.alloc hb _))
  have hlt := h.lt
  have HLT := veil hlt
  have HRG := veil (show w.heap.size ≠ g by omega)
  have HRW := veil (Nat.le_refl w.heap.size)
  have HRB := veil hb
  have G0 := veil g0
  have R0 := veil r0
  have HK := veil hk
  clear r0 g0 h hb hlt hk
  go_enter Tryz.func71, Tryz.ntmps71
  go_wp2_with fail
  show Calls _ _ _ (w.alloc (.cells (frC8 0 0 0 0 0 false (.slice none 0 0) (.slice none 0 0)) 37)) _
  rw [← hW0]
  clear hW0
  refine KI.out.mono ?_
  rintro xx w1 ⟨nk, b0, e0, rfl, hnk, hs, hr, hg⟩
  obtain rfl : nk = 29 := by rw [hnk, HK.out]
  have S0 := veil hs
  have gg := G0.out.trans hg
  have hsz := gg.size
  have hlt := HLT.out
  have HFW := veil hsz
  have HFB := veil (show base ≤ w1.heap.size by have := HRB.out; omega)
  have hrw1 := (Row.grown R0.out hg HRG.out).lt
  have HRF := veil (show w.heap.size ≠ w1.heap.size by omega)
  have HFG := veil (show w1.heap.size ≠ g by omega)
  have hrf : w.heap.size ≠ w1.heap.size := HRF.out
  have RF1 : Hid (Row (w1.alloc (.cells #[.int .u8 13, .int .u64 0, .int .u64 0, .int .u64 0, .int .u64 0, .bool true, .slice none 0 0, .slice none 0 0] 37)) w1.heap.size 37 (frC8 13 0 0 0 0 true (.slice none 0 0) (.slice none 0 0))) := Row.new _ _ _
  have RR1 : Hid (Row (w1.alloc (.cells #[.int .u8 13, .int .u64 0, .int .u64 0, .int .u64 0, .int .u64 0, .bool true, .slice none 0 0, .slice none 0 0] 37)) w.heap.size 37 (frC8 0 0 0 0 0 false (.slice none 0 0) (.slice none 0 0))) := (Row.grown R0.out hg HRG.out).alloc _
  have GG1 : Hid (w.grownBy (w1.alloc (.cells #[.int .u8 13, .int .u64 0, .int .u64 0, .int .u64 0, .int .u64 0, .bool true, .slice none 0 0, .slice none 0 0] 37)) (some g)) := gg.trans (grown_alloc _ _)
  have RD1 : Hid (Rr base g b0 e0 (w1.alloc (.cells #[.int .u8 13, .int .u64 0, .int .u64 0, .int .u64 0, .int .u64 0, .bool true, .slice none 0 0, .slice none 0 0] 37))) := hr.alloc HFB.out _
  clear hs hr hg gg hsz hlt hrw1 hnk KI R0 G0
  obtain ⟨c0, c1, c2, c3, c4, c5, c6, c7⟩ := frC8_cells RF1.out
  obtain ⟨y0, y1, y2, y3, y4, y5, y6, y7⟩ := frC8_cells RR1.out
  obtain ⟨z0, z1, z2, z3, z4, z5, z6, z7⟩ := frC8_fz RF1.out
  obtain ⟨x0, x1, x2, x3, x4, x5, x6, x7⟩ := frC8_fz RR1.out
  go_wp2_with fail
  refine (numberC RD1.out).mono ?_
  rintro xx w2 ⟨n1, b1, e1, rfl, hn, hs, hr, hg⟩
  have RF2 := veil (Row.grown (RF1.out : Row _ w1.heap.size 37 (frC8 13 0 0 0 0 true (.slice none 0 0) (.slice none 0 0))) hg HFG.out)
  have RR2 := veil (Row.grown RR1.out hg HRG.out)
  have GG2 := veil (GG1.out.trans hg)
  have RD2 := veil hr
  have HN1 := veil hn
  have S1 := veil hs
  clear hn hs
  clear c0 c1 c2 c3 c4 c5 c6 c7 y0 y1 y2 y3 y4 y5 y6 y7 z0 z1 z2 z3 z4 z5 z6 z7 x0 x1 x2 x3 x4 x5 x6 x7
  clear hr hg RF1 RR1 RD1
  obtain ⟨c0, c1, c2, c3, c4, c5, c6, c7⟩ := frC8_cells RF2.out
  obtain ⟨y0, y1, y2, y3, y4, y5, y6, y7⟩ := frC8_cells RR2.out
  obtain ⟨z0, z1, z2, z3, z4, z5, z6, z7⟩ := frC8_fz RF2.out
  obtain ⟨x0, x1, x2, x3, x4, x5, x6, x7⟩ := frC8_fz RR2.out
  go_wp2_with fail
  refine (placedC (RD2.out.set HFB.out 4 (.int .u64 ((n1 : Nat) : Int))) 0 (Nat.zero_le _)).mono ?_
  rintro xx w3 ⟨a, k, c, L, b2, e2, rfl, hd, hs, hr, hg⟩
  have RF3 := veil (Row.grown ((RF2.out.set 4 (.int .u64 ((n1 : Nat) : Int))) : Row _ w1.heap.size 37 (frC8 13 0 0 0 n1 true (.slice none 0 0) (.slice none 0 0))) hg HFG.out)
  have RR3 := veil (Row.grown (RR2.out.other (a := ⟨w1.heap.size, 4, none⟩) HRF.out (.int .u64 ((n1 : Nat) : Int))) hg HRG.out)
  have GG3 := veil ((gset GG2.out HFW.out 4 (.int .u64 ((n1 : Nat) : Int))).trans hg)
  have RD3 := veil hr
  have GZ := veil (show w.heap.size ≤ _ from (gset GG2.out HFW.out 4 (.int .u64 ((n1 : Nat) : Int))).size)
  have HDF : Hid (∀ z, (Value.slice a k c).ownBlock = some z → z ≠ w1.heap.size) := fun z hz => by have h1 := (hd.lt z hz).1; have h2 := ((RF2.out.set 4 (.int .u64 ((n1 : Nat) : Int))) : Row _ w1.heap.size 37 (frC8 13 0 0 0 n1 true (.slice none 0 0) (.slice none 0 0))).lt; intro q; rw [q] at h1; (try simp at h1 h2); omega
  have HDR : Hid (∀ z, (Value.slice a k c).ownBlock = some z → z ≠ w.heap.size) := fun z hz => by have h1 := (hd.lt z hz).1; have h2 := (RR2.out.other (a := ⟨w1.heap.size, 4, none⟩) HRF.out (.int .u64 ((n1 : Nat) : Int))).lt; intro q; rw [q] at h1; (try simp at h1 h2); omega
  have DR3 := veil (show RowK w.heap.size L _ _ from own_low hd GZ.out)
  have S2 := veil hs
  clear hd hs
  clear c0 c1 c2 c3 c4 c5 c6 c7 y0 y1 y2 y3 y4 y5 y6 y7 z0 z1 z2 z3 z4 z5 z6 z7 x0 x1 x2 x3 x4 x5 x6 x7
  clear hr hg RF2 RR2 RD2
  obtain ⟨c0, c1, c2, c3, c4, c5, c6, c7⟩ := frC8_cells RF3.out
  obtain ⟨y0, y1, y2, y3, y4, y5, y6, y7⟩ := frC8_cells RR3.out
  obtain ⟨z0, z1, z2, z3, z4, z5, z6, z7⟩ := frC8_fz RF3.out
  obtain ⟨x0, x1, x2, x3, x4, x5, x6, x7⟩ := frC8_fz RR3.out
  go_wp2_with fail
  have hfin : Fin base g w _ (w.heap.size) 13 0 0 0 n1 true (.slice a k c) L _ _ := ⟨(RD3.out.set HFB.out 6 (.slice a k c)), (gset GG3.out HFW.out 6 (.slice a k c)), (RR3.out.other (a := ⟨w1.heap.size, 6, none⟩) HRF.out (.slice a k c)), HRW.out, HRB.out, (own_set DR3.out (w1.heap.size) 6 (.slice a k c) HDF.out), HDR.out, by decide, Nat.zero_le _, Nat.zero_le _, Nat.zero_le _, HN1.out⟩
  obtain ⟨F, q1, q2, q3, q4, q5, q6⟩ := hfin.done
  refine bodyPost_ret (result_frame rfl _ _ (w.heap.size) _ _ q6 8 _ rfl Tryz.underlying37 (by kernel_rfl) rfl) rfl ⟨F, _, _, by rw [q1], q3, ?_, q4, q5⟩
  rw [q2, Fr.frameR_kind]
  exact Fr.sim_then S0.out (show Fr.Sim (Fr.bodyR 29) _ _ _ _ _ from Fr.sim_then S1.out (Fr.sim_then S2.out (Fr.sim_ok _ _ _)))
end Go.Proofs.YtimhbjlmpojhoaaGreatDoor
