/-
  The document's reader: stream.
-/
import Derived.Test.YtimhbjlmpojhoaaGreatDoorGg12
namespace Go.Proofs.YtimhbjlmpojhoaaGreatDoor
open Go Go.RowKit

theorem result_frame {P : Program} {fn : Func} {p : Tmp} {ty : TypeId} (h : fn.results = #[.cell p ty]) (tmps : Array Value) (w : World) (g : Nat) (t : TypeId) (cs : Array Value) (hg : Row w g t cs) (n : Nat) (fs : Array Field)
    (hp : tmps.getD p undef = .pointer (some ⟨g, 0, none⟩)) (hu : P.underlying ty = some (.struct fs)) (hi : (P.info? ty).map (·.size) = some n) (hc : cs.size = n) :
    (results fn tmps).run P w = .ok (.agg cs) w :=
  results_cell_row h tmps w g t cs (0, 0) _ hp hg hu rfl (by rw [hc]; exact hi)
theorem sim_rest {off n e e' : Nat} {b b' L : List By} (hn : n = b.length) (so : Bool) (hso : so = true ↔ 4611686018427387903 < off + n) (h : Fr.Sim (Fr.dataR n) b (if so = true ∧ e = 0 then 5 else e) L b' e') : Fr.Sim (Fr.restR off) b e L b' e' := by
  subst hn
  have hk := Fr.sim_wrong (p := 4611686018427387903 < off + b.length) (m := Fr.dataR b.length) (E := 5) so hso (by decide) h
  have he : (if 4611686018427387903 < off + b.length then Fr.noR 5 else Fr.dataR b.length) b = Fr.restR off b := by
    unfold Fr.restR
    by_cases q : 4611686018427387903 < off + b.length
    · rw [if_pos q, if_pos q]; rfl
    · rw [if_neg q, if_neg q]
      unfold Fr.dataR
      rw [if_neg (Nat.lt_irrefl _)]
      simp
  refine ⟨fun h0 => ?_, hk.2⟩
  rw [← he]
  exact hk.1 h0
set_option maxRecDepth 20000 in
set_option maxHeartbeats 500000 in
theorem stream8 {base g e : Nat} {b : List By} {w : World} (h : Rr base g b e w) (hb : base ≤ w.heap.size) :
    Calls Tryz.prog 121 #[.pointer (some ⟨g, 0, none⟩), .int .u64 8] w fun x w' => FrOut base g (Fr.streamR 8) b e w x w' := by
  obtain ⟨w1, hw1⟩ : ∃ W, W = (w.alloc (.cells (frC8 0 0 0 0 0 false (.slice none 0 0) (.slice none 0 0)) 37)).alloc (.cells (frC8 7 0 0 0 0 false (.slice none 0 0) (.slice none 0 0)) 37) := ⟨_, rfl⟩
  have rr : Row w1 w.heap.size 37 (frC8 0 0 0 0 0 false (.slice none 0 0) (.slice none 0 0)) := by rw [hw1]; exact (Row.new _ _ _).alloc _
  have rf : Row w1 (w.heap.size + 1) 37 (frC8 7 0 0 0 0 false (.slice none 0 0) (.slice none 0 0)) := by rw [hw1]; exact Row.new1 _ _ _ _
  have gg : w.grownBy w1 (some g) := by rw [hw1]; exact (grown_alloc _ _).trans (grown_alloc _ _)
  have rd : Rr base g b e w1 := by rw [hw1]; exact (h.alloc hb _).alloc (by simp; omega) _
  have hlt := h.lt
  have HFB := veil (show base ≤ w.heap.size + 1 by omega)
  have HFW := veil (show w.heap.size ≤ w.heap.size + 1 by omega)
  have HRF := veil (show w.heap.size ≠ w.heap.size + 1 by omega)
  have HFG := veil (show w.heap.size + 1 ≠ g by omega)
  have HRG := veil (show w.heap.size ≠ g by omega)
  have HRW := veil (Nat.le_refl w.heap.size)
  have HRB := veil hb
  have hrf : w.heap.size ≠ w.heap.size + 1 := HRF.out
  have hgf : g ≠ w.heap.size + 1 := fun q => HFG.out q.symm
  have hgr : g ≠ w.heap.size := fun q => HRG.out q.symm
  have RF1 := veil rf
  have RR1 := veil rr
  have GG1 := veil gg
  have RD1 := veil rd
  clear rf rr gg rd h hb hlt
  go_enter Tryz.func121, Tryz.ntmps121
  obtain ⟨c0, c1, c2, c3, c4, c5, c6, c7⟩ := frC8_cells RF1.out
  obtain ⟨y0, y1, y2, y3, y4, y5, y6, y7⟩ := frC8_cells RR1.out
  obtain ⟨z0, z1, z2, z3, z4, z5, z6, z7⟩ := frC8_fz RF1.out
  obtain ⟨x0, x1, x2, x3, x4, x5, x6, x7⟩ := frC8_fz RR1.out
  go_wp2_with fail
  show Calls _ _ _ ((w.alloc (.cells (frC8 0 0 0 0 0 false (.slice none 0 0) (.slice none 0 0)) 37)).alloc (.cells (frC8 7 0 0 0 0 false (.slice none 0 0) (.slice none 0 0)) 37)) _
  rw [← hw1]
  refine (numberC RD1.out).mono ?_
  rintro xx w2 ⟨n1, b1, e1, rfl, hn, hs, hr, hg⟩
  have RF2 := veil (Row.grown (RF1.out : Row _ (w.heap.size + 1) 37 (frC8 7 0 0 0 0 false (.slice none 0 0) (.slice none 0 0))) hg HFG.out)
  have RR2 := veil (Row.grown RR1.out hg HRG.out)
  have GG2 := veil (GG1.out.trans hg)
  have RD2 := veil hr
  have HN1 := veil hn
  have S1 := veil hs
  clear hn hs
  clear c0 c1 c2 c3 c4 c5 c6 c7 y0 y1 y2 y3 y4 y5 y6 y7 z0 z1 z2 z3 z4 z5 z6 z7 x0 x1 x2 x3 x4 x5 x6 x7
  clear hr hg RF1 RR1 RD1
  obtain ⟨c0, c1, c2, c3, c4, c5, c6, c7⟩ := frC8_cells RF2.out
  obtain ⟨y0, y1, y2, y3, y4, y5, y6, y7⟩ := frC8_cells RR2.out
  obtain ⟨z0, z1, z2, z3, z4, z5, z6, z7⟩ := frC8_fz RF2.out
  obtain ⟨x0, x1, x2, x3, x4, x5, x6, x7⟩ := frC8_fz RR2.out
  obtain ⟨s, sr, sk, st9, sn9, sl, sb, sg9⟩ := RD2.out
  have cg : w2.cell? ⟨g, 0, none⟩ = some (.slice s.a s.len s.cap) := sr.cell 0
  have hsl : s.len = b1.length := by rw [← sb, sk.hb]
  have hcv : IntKind.u64.wrap (s.len : Int) = (s.len : Int) := by rw [IntKind.wrap_u64]; omega
  have hsum : (0 : Int) + (s.len : Int) = (s.len : Int) := by omega
  obtain ⟨so, hso⟩ : ∃ so : Bool, decide ((4611686018427387903 : Int) < (s.len : Int)) = so := ⟨_, rfl⟩
  have HSO : Hid (so = true ↔ 4611686018427387903 < 0 + s.len) := show _ ↔ _ by rw [← hso, decide_eq_true_iff]; omega
  have HSL := veil hsl
  clear sr sk sl sb hsl st9 sn9 sg9
  go_wp2_with fail
  refine (wrongC (RD2.out.set HFB.out 1 (.int .u64 ((n1 : Nat) : Int))) so 5).mono ?_
  rintro xx w3 ⟨⟨vv, rfl⟩, hr, hg⟩
  have RF3 := veil (Row.grown ((RF2.out.set 1 (.int .u64 ((n1 : Nat) : Int))) : Row _ (w.heap.size + 1) 37 (frC8 7 n1 0 0 0 false (.slice none 0 0) (.slice none 0 0))) hg HFG.out)
  have RR3 := veil (Row.grown (RR2.out.other (a := ⟨(w.heap.size + 1), 1, none⟩) HRF.out (.int .u64 ((n1 : Nat) : Int))) hg HRG.out)
  have GG3 := veil ((gset GG2.out HFW.out 1 (.int .u64 ((n1 : Nat) : Int))).trans hg)
  have RD3 := veil hr
  clear cg hcv hsum hso
  clear c0 c1 c2 c3 c4 c5 c6 c7 y0 y1 y2 y3 y4 y5 y6 y7 z0 z1 z2 z3 z4 z5 z6 z7 x0 x1 x2 x3 x4 x5 x6 x7
  clear hr hg RF2 RR2 RD2
  obtain ⟨c0, c1, c2, c3, c4, c5, c6, c7⟩ := frC8_cells RF3.out
  obtain ⟨y0, y1, y2, y3, y4, y5, y6, y7⟩ := frC8_cells RR3.out
  obtain ⟨z0, z1, z2, z3, z4, z5, z6, z7⟩ := frC8_fz RF3.out
  obtain ⟨x0, x1, x2, x3, x4, x5, x6, x7⟩ := frC8_fz RR3.out
  go_wp2_with fail
  refine (dataC RD3.out s.len).mono ?_
  rintro xx w4 ⟨a, k, c, L, b2, e2, rfl, hd, hs, hr, hg⟩
  have RF4 := veil (Row.grown (RF3.out : Row _ (w.heap.size + 1) 37 (frC8 7 n1 0 0 0 false (.slice none 0 0) (.slice none 0 0))) hg HFG.out)
  have RR4 := veil (Row.grown RR3.out hg HRG.out)
  have GG4 := veil (GG3.out.trans hg)
  have RD4 := veil hr
  have GZ := veil (show w.heap.size ≤ _ from GG3.out.size)
  have HDF : Hid (∀ z, (Value.slice a k c).ownBlock = some z → z ≠ (w.heap.size + 1)) := fun z hz => by have h1 := (hd.lt z hz).1; have h2 := (RF3.out : Row _ (w.heap.size + 1) 37 (frC8 7 n1 0 0 0 false (.slice none 0 0) (.slice none 0 0))).lt; intro q; rw [q] at h1; (try simp at h1 h2); omega
  have HDR : Hid (∀ z, (Value.slice a k c).ownBlock = some z → z ≠ w.heap.size) := fun z hz => by have h1 := (hd.lt z hz).1; have h2 := RR3.out.lt; intro q; rw [q] at h1; (try simp at h1 h2); omega
  have DR4 := veil (show RowK w.heap.size L _ _ from own_low hd GZ.out)
  have S2 := veil hs
  clear hd hs
  clear c0 c1 c2 c3 c4 c5 c6 c7 y0 y1 y2 y3 y4 y5 y6 y7 z0 z1 z2 z3 z4 z5 z6 z7 x0 x1 x2 x3 x4 x5 x6 x7
  clear hr hg RF3 RR3 RD3
  obtain ⟨c0, c1, c2, c3, c4, c5, c6, c7⟩ := frC8_cells RF4.out
  obtain ⟨y0, y1, y2, y3, y4, y5, y6, y7⟩ := frC8_cells RR4.out
  obtain ⟨z0, z1, z2, z3, z4, z5, z6, z7⟩ := frC8_fz RF4.out
  obtain ⟨x0, x1, x2, x3, x4, x5, x6, x7⟩ := frC8_fz RR4.out
  go_wp2_with fail
  have hfin : Fin base g w _ (w.heap.size) 7 n1 0 0 0 false (.slice a k c) L b2 e2 := ⟨(RD4.out.set HFB.out 6 (.slice a k c)), (gset GG4.out HFW.out 6 (.slice a k c)), (RR4.out.other (a := ⟨(w.heap.size + 1), 6, none⟩) HRF.out (.slice a k c)), HRW.out, HRB.out, (own_set DR4.out ((w.heap.size + 1)) 6 (.slice a k c) HDF.out), HDR.out, by decide, HN1.out, Nat.zero_le _, Nat.zero_le _, Nat.zero_le _⟩
  obtain ⟨F, q1, q2, q3, q4, q5, q6⟩ := hfin.done
  refine bodyPost_ret (result_frame rfl _ _ (w.heap.size) _ _ q6 8 _ rfl Tryz.underlying37 (by kernel_rfl) rfl) rfl ⟨F, _, _, by rw [q1], q3, ?_, q4, q5⟩
  rw [q2]
  exact Fr.sim_then S1.out (Fr.sim_then (show Fr.Sim (if 8 / 4 % 2 = 1 then Fr.numR else Fr.okR 0) _ _ 0 _ _ from by rw [if_neg (by decide)]; exact Fr.sim_ok 0 _ _) (Fr.sim_then (show Fr.Sim (if 8 / 2 % 2 = 1 then Fr.placedR 0 else Fr.restR 0) _ _ L _ _ from by
      rw [if_neg (by decide)]
      exact sim_rest HSL.out so HSO.out S2.out) (Fr.sim_ok _ _ _)))

set_option maxRecDepth 20000 in
set_option maxHeartbeats 500000 in
theorem stream9 {base g e : Nat} {b : List By} {w : World} (h : Rr base g b e w) (hb : base ≤ w.heap.size) :
    Calls Tryz.prog 121 #[.pointer (some ⟨g, 0, none⟩), .int .u64 9] w fun x w' => FrOut base g (Fr.streamR 9) b e w x w' := by
  obtain ⟨w1, hw1⟩ : ∃ W, W = (w.alloc (.cells (frC8 0 0 0 0 0 false (.slice none 0 0) (.slice none 0 0)) 37)).alloc (.cells (frC8 7 0 0 0 0 true (.slice none 0 0) (.slice none 0 0)) 37) := ⟨_, rfl⟩
  have rr : Row w1 w.heap.size 37 (frC8 0 0 0 0 0 false (.slice none 0 0) (.slice none 0 0)) := by rw [hw1]; exact (Row.new _ _ _).alloc _
  have rf : Row w1 (w.heap.size + 1) 37 (frC8 7 0 0 0 0 true (.slice none 0 0) (.slice none 0 0)) := by rw [hw1]; exact Row.new1 _ _ _ _
  have gg : w.grownBy w1 (some g) := by rw [hw1]; exact (grown_alloc _ _).trans (grown_alloc _ _)
  have rd : Rr base g b e w1 := by rw [hw1]; exact (h.alloc hb _).alloc (by simp; omega) _
  have hlt := h.lt
  have HFB := veil (show base ≤ w.heap.size + 1 by omega)
  have HFW := veil (show w.heap.size ≤ w.heap.size + 1 by omega)
  have HRF := veil (show w.heap.size ≠ w.heap.size + 1 by omega)
  have HFG := veil (show w.heap.size + 1 ≠ g by omega)
  have HRG := veil (show w.heap.size ≠ g by omega)
  have HRW := veil (Nat.le_refl w.heap.size)
  have HRB := veil hb
  have hrf : w.heap.size ≠ w.heap.size + 1 := HRF.out
  have hgf : g ≠ w.heap.size + 1 := fun q => HFG.out q.symm
  have hgr : g ≠ w.heap.size := fun q => HRG.out q.symm
  have RF1 := veil rf
  have RR1 := veil rr
  have GG1 := veil gg
  have RD1 := veil rd
  clear rf rr gg rd h hb hlt
  go_enter Tryz.func121, Tryz.ntmps121
  obtain ⟨c0, c1, c2, c3, c4, c5, c6, c7⟩ := frC8_cells RF1.out
  obtain ⟨y0, y1, y2, y3, y4, y5, y6, y7⟩ := frC8_cells RR1.out
  obtain ⟨z0, z1, z2, z3, z4, z5, z6, z7⟩ := frC8_fz RF1.out
  obtain ⟨x0, x1, x2, x3, x4, x5, x6, x7⟩ := frC8_fz RR1.out
  go_wp2_with fail
  show Calls _ _ _ ((w.alloc (.cells (frC8 0 0 0 0 0 false (.slice none 0 0) (.slice none 0 0)) 37)).alloc (.cells (frC8 7 0 0 0 0 true (.slice none 0 0) (.slice none 0 0)) 37)) _
  rw [← hw1]
  refine (numberC RD1.out).mono ?_
  rintro xx w2 ⟨n1, b1, e1, rfl, hn, hs, hr, hg⟩
  have RF2 := veil (Row.grown (RF1.out : Row _ (w.heap.size + 1) 37 (frC8 7 0 0 0 0 true (.slice none 0 0) (.slice none 0 0))) hg HFG.out)
  have RR2 := veil (Row.grown RR1.out hg HRG.out)
  have GG2 := veil (GG1.out.trans hg)
  have RD2 := veil hr
  have HN1 := veil hn
  have S1 := veil hs
  clear hn hs
  clear c0 c1 c2 c3 c4 c5 c6 c7 y0 y1 y2 y3 y4 y5 y6 y7 z0 z1 z2 z3 z4 z5 z6 z7 x0 x1 x2 x3 x4 x5 x6 x7
  clear hr hg RF1 RR1 RD1
  obtain ⟨c0, c1, c2, c3, c4, c5, c6, c7⟩ := frC8_cells RF2.out
  obtain ⟨y0, y1, y2, y3, y4, y5, y6, y7⟩ := frC8_cells RR2.out
  obtain ⟨z0, z1, z2, z3, z4, z5, z6, z7⟩ := frC8_fz RF2.out
  obtain ⟨x0, x1, x2, x3, x4, x5, x6, x7⟩ := frC8_fz RR2.out
  obtain ⟨s, sr, sk, st9, sn9, sl, sb, sg9⟩ := RD2.out
  have cg : w2.cell? ⟨g, 0, none⟩ = some (.slice s.a s.len s.cap) := sr.cell 0
  have hsl : s.len = b1.length := by rw [← sb, sk.hb]
  have hcv : IntKind.u64.wrap (s.len : Int) = (s.len : Int) := by rw [IntKind.wrap_u64]; omega
  have hsum : (0 : Int) + (s.len : Int) = (s.len : Int) := by omega
  obtain ⟨so, hso⟩ : ∃ so : Bool, decide ((4611686018427387903 : Int) < (s.len : Int)) = so := ⟨_, rfl⟩
  have HSO : Hid (so = true ↔ 4611686018427387903 < 0 + s.len) := show _ ↔ _ by rw [← hso, decide_eq_true_iff]; omega
  have HSL := veil hsl
  clear sr sk sl sb hsl st9 sn9 sg9
  go_wp2_with fail
  refine (wrongC (RD2.out.set HFB.out 1 (.int .u64 ((n1 : Nat) : Int))) so 5).mono ?_
  rintro xx w3 ⟨⟨vv, rfl⟩, hr, hg⟩
  have RF3 := veil (Row.grown ((RF2.out.set 1 (.int .u64 ((n1 : Nat) : Int))) : Row _ (w.heap.size + 1) 37 (frC8 7 n1 0 0 0 true (.slice none 0 0) (.slice none 0 0))) hg HFG.out)
  have RR3 := veil (Row.grown (RR2.out.other (a := ⟨(w.heap.size + 1), 1, none⟩) HRF.out (.int .u64 ((n1 : Nat) : Int))) hg HRG.out)
  have GG3 := veil ((gset GG2.out HFW.out 1 (.int .u64 ((n1 : Nat) : Int))).trans hg)
  have RD3 := veil hr
  clear cg hcv hsum hso
  clear c0 c1 c2 c3 c4 c5 c6 c7 y0 y1 y2 y3 y4 y5 y6 y7 z0 z1 z2 z3 z4 z5 z6 z7 x0 x1 x2 x3 x4 x5 x6 x7
  clear hr hg RF2 RR2 RD2
  obtain ⟨c0, c1, c2, c3, c4, c5, c6, c7⟩ := frC8_cells RF3.out
  obtain ⟨y0, y1, y2, y3, y4, y5, y6, y7⟩ := frC8_cells RR3.out
  obtain ⟨z0, z1, z2, z3, z4, z5, z6, z7⟩ := frC8_fz RF3.out
  obtain ⟨x0, x1, x2, x3, x4, x5, x6, x7⟩ := frC8_fz RR3.out
  go_wp2_with fail
  refine (dataC RD3.out s.len).mono ?_
  rintro xx w4 ⟨a, k, c, L, b2, e2, rfl, hd, hs, hr, hg⟩
  have RF4 := veil (Row.grown (RF3.out : Row _ (w.heap.size + 1) 37 (frC8 7 n1 0 0 0 true (.slice none 0 0) (.slice none 0 0))) hg HFG.out)
  have RR4 := veil (Row.grown RR3.out hg HRG.out)
  have GG4 := veil (GG3.out.trans hg)
  have RD4 := veil hr
  have GZ := veil (show w.heap.size ≤ _ from GG3.out.size)
  have HDF : Hid (∀ z, (Value.slice a k c).ownBlock = some z → z ≠ (w.heap.size + 1)) := fun z hz => by have h1 := (hd.lt z hz).1; have h2 := (RF3.out : Row _ (w.heap.size + 1) 37 (frC8 7 n1 0 0 0 true (.slice none 0 0) (.slice none 0 0))).lt; intro q; rw [q] at h1; (try simp at h1 h2); omega
  have HDR : Hid (∀ z, (Value.slice a k c).ownBlock = some z → z ≠ w.heap.size) := fun z hz => by have h1 := (hd.lt z hz).1; have h2 := RR3.out.lt; intro q; rw [q] at h1; (try simp at h1 h2); omega
  have DR4 := veil (show RowK w.heap.size L _ _ from own_low hd GZ.out)
  have S2 := veil hs
  clear hd hs
  clear c0 c1 c2 c3 c4 c5 c6 c7 y0 y1 y2 y3 y4 y5 y6 y7 z0 z1 z2 z3 z4 z5 z6 z7 x0 x1 x2 x3 x4 x5 x6 x7
  clear hr hg RF3 RR3 RD3
  obtain ⟨c0, c1, c2, c3, c4, c5, c6, c7⟩ := frC8_cells RF4.out
  obtain ⟨y0, y1, y2, y3, y4, y5, y6, y7⟩ := frC8_cells RR4.out
  obtain ⟨z0, z1, z2, z3, z4, z5, z6, z7⟩ := frC8_fz RF4.out
  obtain ⟨x0, x1, x2, x3, x4, x5, x6, x7⟩ := frC8_fz RR4.out
  go_wp2_with fail
  have hfin : Fin base g w _ (w.heap.size) 7 n1 0 0 0 true (.slice a k c) L b2 e2 := ⟨(RD4.out.set HFB.out 6 (.slice a k c)), (gset GG4.out HFW.out 6 (.slice a k c)), (RR4.out.other (a := ⟨(w.heap.size + 1), 6, none⟩) HRF.out (.slice a k c)), HRW.out, HRB.out, (own_set DR4.out ((w.heap.size + 1)) 6 (.slice a k c) HDF.out), HDR.out, by decide, HN1.out, Nat.zero_le _, Nat.zero_le _, Nat.zero_le _⟩
  obtain ⟨F, q1, q2, q3, q4, q5, q6⟩ := hfin.done
  refine bodyPost_ret (result_frame rfl _ _ (w.heap.size) _ _ q6 8 _ rfl Tryz.underlying37 (by kernel_rfl) rfl) rfl ⟨F, _, _, by rw [q1], q3, ?_, q4, q5⟩
  rw [q2]
  exact Fr.sim_then S1.out (Fr.sim_then (show Fr.Sim (if 9 / 4 % 2 = 1 then Fr.numR else Fr.okR 0) _ _ 0 _ _ from by rw [if_neg (by decide)]; exact Fr.sim_ok 0 _ _) (Fr.sim_then (show Fr.Sim (if 9 / 2 % 2 = 1 then Fr.placedR 0 else Fr.restR 0) _ _ L _ _ from by
      rw [if_neg (by decide)]
      exact sim_rest HSL.out so HSO.out S2.out) (Fr.sim_ok _ _ _)))

set_option maxRecDepth 20000 in
set_option maxHeartbeats 500000 in
theorem stream10 {base g e : Nat} {b : List By} {w : World} (h : Rr base g b e w) (hb : base ≤ w.heap.size) :
    Calls Tryz.prog 121 #[.pointer (some ⟨g, 0, none⟩), .int .u64 10] w fun x w' => FrOut base g (Fr.streamR 10) b e w x w' := by
  obtain ⟨w1, hw1⟩ : ∃ W, W = (w.alloc (.cells (frC8 0 0 0 0 0 false (.slice none 0 0) (.slice none 0 0)) 37)).alloc (.cells (frC8 7 0 0 0 0 false (.slice none 0 0) (.slice none 0 0)) 37) := ⟨_, rfl⟩
  have rr : Row w1 w.heap.size 37 (frC8 0 0 0 0 0 false (.slice none 0 0) (.slice none 0 0)) := by rw [hw1]; exact (Row.new _ _ _).alloc _
  have rf : Row w1 (w.heap.size + 1) 37 (frC8 7 0 0 0 0 false (.slice none 0 0) (.slice none 0 0)) := by rw [hw1]; exact Row.new1 _ _ _ _
  have gg : w.grownBy w1 (some g) := by rw [hw1]; exact (grown_alloc _ _).trans (grown_alloc _ _)
  have rd : Rr base g b e w1 := by rw [hw1]; exact (h.alloc hb _).alloc (by simp; omega) _
  have hlt := h.lt
  have HFB := veil (show base ≤ w.heap.size + 1 by omega)
  have HFW := veil (show w.heap.size ≤ w.heap.size + 1 by omega)
  have HRF := veil (show w.heap.size ≠ w.heap.size + 1 by omega)
  have HFG := veil (show w.heap.size + 1 ≠ g by omega)
  have HRG := veil (show w.heap.size ≠ g by omega)
  have HRW := veil (Nat.le_refl w.heap.size)
  have HRB := veil hb
  have hrf : w.heap.size ≠ w.heap.size + 1 := HRF.out
  have hgf : g ≠ w.heap.size + 1 := fun q => HFG.out q.symm
  have hgr : g ≠ w.heap.size := fun q => HRG.out q.symm
  have RF1 := veil rf
  have RR1 := veil rr
  have GG1 := veil gg
  have RD1 := veil rd
  clear rf rr gg rd h hb hlt
  go_enter Tryz.func121, Tryz.ntmps121
  obtain ⟨c0, c1, c2, c3, c4, c5, c6, c7⟩ := frC8_cells RF1.out
  obtain ⟨y0, y1, y2, y3, y4, y5, y6, y7⟩ := frC8_cells RR1.out
  obtain ⟨z0, z1, z2, z3, z4, z5, z6, z7⟩ := frC8_fz RF1.out
  obtain ⟨x0, x1, x2, x3, x4, x5, x6, x7⟩ := frC8_fz RR1.out
  go_wp2_with fail
  show Calls _ _ _ ((w.alloc (.cells (frC8 0 0 0 0 0 false (.slice none 0 0) (.slice none 0 0)) 37)).alloc (.cells (frC8 7 0 0 0 0 false (.slice none 0 0) (.slice none 0 0)) 37)) _
  rw [← hw1]
  refine (numberC RD1.out).mono ?_
  rintro xx w2 ⟨n1, b1, e1, rfl, hn, hs, hr, hg⟩
  have RF2 := veil (Row.grown (RF1.out : Row _ (w.heap.size + 1) 37 (frC8 7 0 0 0 0 false (.slice none 0 0) (.slice none 0 0))) hg HFG.out)
  have RR2 := veil (Row.grown RR1.out hg HRG.out)
  have GG2 := veil (GG1.out.trans hg)
  have RD2 := veil hr
  have HN1 := veil hn
  have S1 := veil hs
  clear hn hs
  clear c0 c1 c2 c3 c4 c5 c6 c7 y0 y1 y2 y3 y4 y5 y6 y7 z0 z1 z2 z3 z4 z5 z6 z7 x0 x1 x2 x3 x4 x5 x6 x7
  clear hr hg RF1 RR1 RD1
  obtain ⟨c0, c1, c2, c3, c4, c5, c6, c7⟩ := frC8_cells RF2.out
  obtain ⟨y0, y1, y2, y3, y4, y5, y6, y7⟩ := frC8_cells RR2.out
  obtain ⟨z0, z1, z2, z3, z4, z5, z6, z7⟩ := frC8_fz RF2.out
  obtain ⟨x0, x1, x2, x3, x4, x5, x6, x7⟩ := frC8_fz RR2.out
  go_wp2_with fail
  refine (placedC (RD2.out.set HFB.out 1 (.int .u64 ((n1 : Nat) : Int))) 0 (Nat.zero_le _)).mono ?_
  rintro xx w3 ⟨a, k, c, L, b2, e2, rfl, hd, hs, hr, hg⟩
  have RF3 := veil (Row.grown ((RF2.out.set 1 (.int .u64 ((n1 : Nat) : Int))) : Row _ (w.heap.size + 1) 37 (frC8 7 n1 0 0 0 false (.slice none 0 0) (.slice none 0 0))) hg HFG.out)
  have RR3 := veil (Row.grown (RR2.out.other (a := ⟨(w.heap.size + 1), 1, none⟩) HRF.out (.int .u64 ((n1 : Nat) : Int))) hg HRG.out)
  have GG3 := veil ((gset GG2.out HFW.out 1 (.int .u64 ((n1 : Nat) : Int))).trans hg)
  have RD3 := veil hr
  have GZ := veil (show w.heap.size ≤ _ from (gset GG2.out HFW.out 1 (.int .u64 ((n1 : Nat) : Int))).size)
  have HDF : Hid (∀ z, (Value.slice a k c).ownBlock = some z → z ≠ (w.heap.size + 1)) := fun z hz => by have h1 := (hd.lt z hz).1; have h2 := ((RF2.out.set 1 (.int .u64 ((n1 : Nat) : Int))) : Row _ (w.heap.size + 1) 37 (frC8 7 n1 0 0 0 false (.slice none 0 0) (.slice none 0 0))).lt; intro q; rw [q] at h1; (try simp at h1 h2); omega
  have HDR : Hid (∀ z, (Value.slice a k c).ownBlock = some z → z ≠ w.heap.size) := fun z hz => by have h1 := (hd.lt z hz).1; have h2 := (RR2.out.other (a := ⟨(w.heap.size + 1), 1, none⟩) HRF.out (.int .u64 ((n1 : Nat) : Int))).lt; intro q; rw [q] at h1; (try simp at h1 h2); omega
  have DR3 := veil (show RowK w.heap.size L _ _ from own_low hd GZ.out)
  have S2 := veil hs
  clear hd hs
  clear c0 c1 c2 c3 c4 c5 c6 c7 y0 y1 y2 y3 y4 y5 y6 y7 z0 z1 z2 z3 z4 z5 z6 z7 x0 x1 x2 x3 x4 x5 x6 x7
  clear hr hg RF2 RR2 RD2
  obtain ⟨c0, c1, c2, c3, c4, c5, c6, c7⟩ := frC8_cells RF3.out
  obtain ⟨y0, y1, y2, y3, y4, y5, y6, y7⟩ := frC8_cells RR3.out
  obtain ⟨z0, z1, z2, z3, z4, z5, z6, z7⟩ := frC8_fz RF3.out
  obtain ⟨x0, x1, x2, x3, x4, x5, x6, x7⟩ := frC8_fz RR3.out
  go_wp2_with fail
  have hfin : Fin base g w _ (w.heap.size) 7 n1 0 0 0 false (.slice a k c) L b2 e2 := ⟨(RD3.out.set HFB.out 6 (.slice a k c)), (gset GG3.out HFW.out 6 (.slice a k c)), (RR3.out.other (a := ⟨(w.heap.size + 1), 6, none⟩) HRF.out (.slice a k c)), HRW.out, HRB.out, (own_set DR3.out ((w.heap.size + 1)) 6 (.slice a k c) HDF.out), HDR.out, by decide, HN1.out, Nat.zero_le _, Nat.zero_le _, Nat.zero_le _⟩
  obtain ⟨F, q1, q2, q3, q4, q5, q6⟩ := hfin.done
  refine bodyPost_ret (result_frame rfl _ _ (w.heap.size) _ _ q6 8 _ rfl Tryz.underlying37 (by kernel_rfl) rfl) rfl ⟨F, _, _, by rw [q1], q3, ?_, q4, q5⟩
  rw [q2]
  exact Fr.sim_then S1.out (Fr.sim_then (show Fr.Sim (if 10 / 4 % 2 = 1 then Fr.numR else Fr.okR 0) _ _ 0 _ _ from by rw [if_neg (by decide)]; exact Fr.sim_ok 0 _ _) (Fr.sim_then (show Fr.Sim (if 10 / 2 % 2 = 1 then Fr.placedR 0 else Fr.restR 0) _ _ L _ _ from by rw [if_pos (by decide)]; exact S2.out) (Fr.sim_ok _ _ _)))

set_option maxRecDepth 20000 in
set_option maxHeartbeats 500000 in
theorem stream11 {base g e : Nat} {b : List By} {w : World} (h : Rr base g b e w) (hb : base ≤ w.heap.size) :
    Calls Tryz.prog 121 #[.pointer (some ⟨g, 0, none⟩), .int .u64 11] w fun x w' => FrOut base g (Fr.streamR 11) b e w x w' := by
  obtain ⟨w1, hw1⟩ : ∃ W, W = (w.alloc (.cells (frC8 0 0 0 0 0 false (.slice none 0 0) (.slice none 0 0)) 37)).alloc (.cells (frC8 7 0 0 0 0 true (.slice none 0 0) (.slice none 0 0)) 37) := ⟨_, rfl⟩
  have rr : Row w1 w.heap.size 37 (frC8 0 0 0 0 0 false (.slice none 0 0) (.slice none 0 0)) := by rw [hw1]; exact (Row.new _ _ _).alloc _
  have rf : Row w1 (w.heap.size + 1) 37 (frC8 7 0 0 0 0 true (.slice none 0 0) (.slice none 0 0)) := by rw [hw1]; exact Row.new1 _ _ _ _
  have gg : w.grownBy w1 (some g) := by rw [hw1]; exact (grown_alloc _ _).trans (grown_alloc _ _)
  have rd : Rr base g b e w1 := by rw [hw1]; exact (h.alloc hb _).alloc (by simp; omega) _
  have hlt := h.lt
  have HFB := veil (show base ≤ w.heap.size + 1 by omega)
  have HFW := veil (show w.heap.size ≤ w.heap.size + 1 by omega)
  have HRF := veil (show w.heap.size ≠ w.heap.size + 1 by omega)
  have HFG := veil (show w.heap.size + 1 ≠ g by omega)
  have HRG := veil (show w.heap.size ≠ g by omega)
  have HRW := veil (Nat.le_refl w.heap.size)
  have HRB := veil hb
  have hrf : w.heap.size ≠ w.heap.size + 1 := HRF.out
  have hgf : g ≠ w.heap.size + 1 := fun q => HFG.out q.symm
  have hgr : g ≠ w.heap.size := fun q => HRG.out q.symm
  have RF1 := veil rf
  have RR1 := veil rr
  have GG1 := veil gg
  have RD1 := veil rd
  clear rf rr gg rd h hb hlt
  go_enter Tryz.func121, Tryz.ntmps121
  obtain ⟨c0, c1, c2, c3, c4, c5, c6, c7⟩ := frC8_cells RF1.out
  obtain ⟨y0, y1, y2, y3, y4, y5, y6, y7⟩ := frC8_cells RR1.out
  obtain ⟨z0, z1, z2, z3, z4, z5, z6, z7⟩ := frC8_fz RF1.out
  obtain ⟨x0, x1, x2, x3, x4, x5, x6, x7⟩ := frC8_fz RR1.out
  go_wp2_with fail
  show Calls _ _ _ ((w.alloc (.cells (frC8 0 0 0 0 0 false (.slice none 0 0) (.slice none 0 0)) 37)).alloc (.cells (frC8 7 0 0 0 0 true (.slice none 0 0) (.slice none 0 0)) 37)) _
  rw [← hw1]
  refine (numberC RD1.out).mono ?_
  rintro xx w2 ⟨n1, b1, e1, rfl, hn, hs, hr, hg⟩
  have RF2 := veil (Row.grown (RF1.out : Row _ (w.heap.size + 1) 37 (frC8 7 0 0 0 0 true (.slice none 0 0) (.slice none 0 0))) hg HFG.out)
  have RR2 := veil (Row.grown RR1.out hg HRG.out)
  have GG2 := veil (GG1.out.trans hg)
  have RD2 := veil hr
  have HN1 := veil hn
  have S1 := veil hs
  clear hn hs
  clear c0 c1 c2 c3 c4 c5 c6 c7 y0 y1 y2 y3 y4 y5 y6 y7 z0 z1 z2 z3 z4 z5 z6 z7 x0 x1 x2 x3 x4 x5 x6 x7
  clear hr hg RF1 RR1 RD1
  obtain ⟨c0, c1, c2, c3, c4, c5, c6, c7⟩ := frC8_cells RF2.out
  obtain ⟨y0, y1, y2, y3, y4, y5, y6, y7⟩ := frC8_cells RR2.out
  obtain ⟨z0, z1, z2, z3, z4, z5, z6, z7⟩ := frC8_fz RF2.out
  obtain ⟨x0, x1, x2, x3, x4, x5, x6, x7⟩ := frC8_fz RR2.out
  go_wp2_with fail
  refine (placedC (RD2.out.set HFB.out 1 (.int .u64 ((n1 : Nat) : Int))) 0 (Nat.zero_le _)).mono ?_
  rintro xx w3 ⟨a, k, c, L, b2, e2, rfl, hd, hs, hr, hg⟩
  have RF3 := veil (Row.grown ((RF2.out.set 1 (.int .u64 ((n1 : Nat) : Int))) : Row _ (w.heap.size + 1) 37 (frC8 7 n1 0 0 0 true (.slice none 0 0) (.slice none 0 0))) hg HFG.out)
  have RR3 := veil (Row.grown (RR2.out.other (a := ⟨(w.heap.size + 1), 1, none⟩) HRF.out (.int .u64 ((n1 : Nat) : Int))) hg HRG.out)
  have GG3 := veil ((gset GG2.out HFW.out 1 (.int .u64 ((n1 : Nat) : Int))).trans hg)
  have RD3 := veil hr
  have GZ := veil (show w.heap.size ≤ _ from (gset GG2.out HFW.out 1 (.int .u64 ((n1 : Nat) : Int))).size)
  have HDF : Hid (∀ z, (Value.slice a k c).ownBlock = some z → z ≠ (w.heap.size + 1)) := fun z hz => by have h1 := (hd.lt z hz).1; have h2 := ((RF2.out.set 1 (.int .u64 ((n1 : Nat) : Int))) : Row _ (w.heap.size + 1) 37 (frC8 7 n1 0 0 0 true (.slice none 0 0) (.slice none 0 0))).lt; intro q; rw [q] at h1; (try simp at h1 h2); omega
  have HDR : Hid (∀ z, (Value.slice a k c).ownBlock = some z → z ≠ w.heap.size) := fun z hz => by have h1 := (hd.lt z hz).1; have h2 := (RR2.out.other (a := ⟨(w.heap.size + 1), 1, none⟩) HRF.out (.int .u64 ((n1 : Nat) : Int))).lt; intro q; rw [q] at h1; (try simp at h1 h2); omega
  have DR3 := veil (show RowK w.heap.size L _ _ from own_low hd GZ.out)
  have S2 := veil hs
  clear hd hs
  clear c0 c1 c2 c3 c4 c5 c6 c7 y0 y1 y2 y3 y4 y5 y6 y7 z0 z1 z2 z3 z4 z5 z6 z7 x0 x1 x2 x3 x4 x5 x6 x7
  clear hr hg RF2 RR2 RD2
  obtain ⟨c0, c1, c2, c3, c4, c5, c6, c7⟩ := frC8_cells RF3.out
  obtain ⟨y0, y1, y2, y3, y4, y5, y6, y7⟩ := frC8_cells RR3.out
  obtain ⟨z0, z1, z2, z3, z4, z5, z6, z7⟩ := frC8_fz RF3.out
  obtain ⟨x0, x1, x2, x3, x4, x5, x6, x7⟩ := frC8_fz RR3.out
  go_wp2_with fail
  have hfin : Fin base g w _ (w.heap.size) 7 n1 0 0 0 true (.slice a k c) L b2 e2 := ⟨(RD3.out.set HFB.out 6 (.slice a k c)), (gset GG3.out HFW.out 6 (.slice a k c)), (RR3.out.other (a := ⟨(w.heap.size + 1), 6, none⟩) HRF.out (.slice a k c)), HRW.out, HRB.out, (own_set DR3.out ((w.heap.size + 1)) 6 (.slice a k c) HDF.out), HDR.out, by decide, HN1.out, Nat.zero_le _, Nat.zero_le _, Nat.zero_le _⟩
  obtain ⟨F, q1, q2, q3, q4, q5, q6⟩ := hfin.done
  refine bodyPost_ret (result_frame rfl _ _ (w.heap.size) _ _ q6 8 _ rfl Tryz.underlying37 (by kernel_rfl) rfl) rfl ⟨F, _, _, by rw [q1], q3, ?_, q4, q5⟩
  rw [q2]
  exact Fr.sim_then S1.out (Fr.sim_then (show Fr.Sim (if 11 / 4 % 2 = 1 then Fr.numR else Fr.okR 0) _ _ 0 _ _ from by rw [if_neg (by decide)]; exact Fr.sim_ok 0 _ _) (Fr.sim_then (show Fr.Sim (if 11 / 2 % 2 = 1 then Fr.placedR 0 else Fr.restR 0) _ _ L _ _ from by rw [if_pos (by decide)]; exact S2.out) (Fr.sim_ok _ _ _)))

set_option maxRecDepth 20000 in
set_option maxHeartbeats 500000 in
theorem stream12 {base g e : Nat} {b : List By} {w : World} (h : Rr base g b e w) (hb : base ≤ w.heap.size) :
    Calls Tryz.prog 121 #[.pointer (some ⟨g, 0, none⟩), .int .u64 12] w fun x w' => FrOut base g (Fr.streamR 12) b e w x w' := by
  obtain ⟨w1, hw1⟩ : ∃ W, W = (w.alloc (.cells (frC8 0 0 0 0 0 false (.slice none 0 0) (.slice none 0 0)) 37)).alloc (.cells (frC8 7 0 0 0 0 false (.slice none 0 0) (.slice none 0 0)) 37) := ⟨_, rfl⟩
  have rr : Row w1 w.heap.size 37 (frC8 0 0 0 0 0 false (.slice none 0 0) (.slice none 0 0)) := by rw [hw1]; exact (Row.new _ _ _).alloc _
  have rf : Row w1 (w.heap.size + 1) 37 (frC8 7 0 0 0 0 false (.slice none 0 0) (.slice none 0 0)) := by rw [hw1]; exact Row.new1 _ _ _ _
  have gg : w.grownBy w1 (some g) := by rw [hw1]; exact (grown_alloc _ _).trans (grown_alloc _ _)
  have rd : Rr base g b e w1 := by rw [hw1]; exact (h.alloc hb _).alloc (by simp; omega) _
  have hlt := h.lt
  have HFB := veil (show base ≤ w.heap.size + 1 by omega)
  have HFW := veil (show w.heap.size ≤ w.heap.size + 1 by omega)
  have HRF := veil (show w.heap.size ≠ w.heap.size + 1 by omega)
  have HFG := veil (show w.heap.size + 1 ≠ g by omega)
  have HRG := veil (show w.heap.size ≠ g by omega)
  have HRW := veil (Nat.le_refl w.heap.size)
  have HRB := veil hb
  have hrf : w.heap.size ≠ w.heap.size + 1 := HRF.out
  have hgf : g ≠ w.heap.size + 1 := fun q => HFG.out q.symm
  have hgr : g ≠ w.heap.size := fun q => HRG.out q.symm
  have RF1 := veil rf
  have RR1 := veil rr
  have GG1 := veil gg
  have RD1 := veil rd
  clear rf rr gg rd h hb hlt
  go_enter Tryz.func121, Tryz.ntmps121
  obtain ⟨c0, c1, c2, c3, c4, c5, c6, c7⟩ := frC8_cells RF1.out
  obtain ⟨y0, y1, y2, y3, y4, y5, y6, y7⟩ := frC8_cells RR1.out
  obtain ⟨z0, z1, z2, z3, z4, z5, z6, z7⟩ := frC8_fz RF1.out
  obtain ⟨x0, x1, x2, x3, x4, x5, x6, x7⟩ := frC8_fz RR1.out
  go_wp2_with fail
  show Calls _ _ _ ((w.alloc (.cells (frC8 0 0 0 0 0 false (.slice none 0 0) (.slice none 0 0)) 37)).alloc (.cells (frC8 7 0 0 0 0 false (.slice none 0 0) (.slice none 0 0)) 37)) _
  rw [← hw1]
  refine (numberC RD1.out).mono ?_
  rintro xx w2 ⟨n1, b1, e1, rfl, hn, hs, hr, hg⟩
  have RF2 := veil (Row.grown (RF1.out : Row _ (w.heap.size + 1) 37 (frC8 7 0 0 0 0 false (.slice none 0 0) (.slice none 0 0))) hg HFG.out)
  have RR2 := veil (Row.grown RR1.out hg HRG.out)
  have GG2 := veil (GG1.out.trans hg)
  have RD2 := veil hr
  have HN1 := veil hn
  have S1 := veil hs
  clear hn hs
  clear c0 c1 c2 c3 c4 c5 c6 c7 y0 y1 y2 y3 y4 y5 y6 y7 z0 z1 z2 z3 z4 z5 z6 z7 x0 x1 x2 x3 x4 x5 x6 x7
  clear hr hg RF1 RR1 RD1
  obtain ⟨c0, c1, c2, c3, c4, c5, c6, c7⟩ := frC8_cells RF2.out
  obtain ⟨y0, y1, y2, y3, y4, y5, y6, y7⟩ := frC8_cells RR2.out
  obtain ⟨z0, z1, z2, z3, z4, z5, z6, z7⟩ := frC8_fz RF2.out
  obtain ⟨x0, x1, x2, x3, x4, x5, x6, x7⟩ := frC8_fz RR2.out
  go_wp2_with fail
  refine (numberC (RD2.out.set HFB.out 1 (.int .u64 ((n1 : Nat) : Int)))).mono ?_
  rintro xx w3 ⟨n2, b2, e2, rfl, hn, hs, hr, hg⟩
  have RF3 := veil (Row.grown ((RF2.out.set 1 (.int .u64 ((n1 : Nat) : Int))) : Row _ (w.heap.size + 1) 37 (frC8 7 n1 0 0 0 false (.slice none 0 0) (.slice none 0 0))) hg HFG.out)
  have RR3 := veil (Row.grown (RR2.out.other (a := ⟨(w.heap.size + 1), 1, none⟩) HRF.out (.int .u64 ((n1 : Nat) : Int))) hg HRG.out)
  have GG3 := veil ((gset GG2.out HFW.out 1 (.int .u64 ((n1 : Nat) : Int))).trans hg)
  have RD3 := veil hr
  have HN2 := veil hn
  have S2 := veil hs
  clear hn hs
  clear c0 c1 c2 c3 c4 c5 c6 c7 y0 y1 y2 y3 y4 y5 y6 y7 z0 z1 z2 z3 z4 z5 z6 z7 x0 x1 x2 x3 x4 x5 x6 x7
  clear hr hg RF2 RR2 RD2
  obtain ⟨c0, c1, c2, c3, c4, c5, c6, c7⟩ := frC8_cells RF3.out
  obtain ⟨y0, y1, y2, y3, y4, y5, y6, y7⟩ := frC8_cells RR3.out
  obtain ⟨z0, z1, z2, z3, z4, z5, z6, z7⟩ := frC8_fz RF3.out
  obtain ⟨x0, x1, x2, x3, x4, x5, x6, x7⟩ := frC8_fz RR3.out
  obtain ⟨s, sr, sk, st9, sn9, sl, sb, sg9⟩ := RD3.out
  have cg : w3.cell? ⟨g, 0, none⟩ = some (.slice s.a s.len s.cap) := sr.cell 0
  have hsl : s.len = b2.length := by rw [← sb, sk.hb]
  have hcv : IntKind.u64.wrap (s.len : Int) = (s.len : Int) := by rw [IntKind.wrap_u64]; omega
  obtain ⟨Q, hQ⟩ : ∃ Q : Nat, n2 + s.len = Q := ⟨_, rfl⟩
  have hsum : IntKind.u64.wrap ((n2 : Int) + (s.len : Int)) = (Q : Int) := by have := HN2.out; rw [IntKind.wrap_u64]; omega
  obtain ⟨so, hso⟩ : ∃ so : Bool, decide ((4611686018427387903 : Int) < (Q : Int)) = so := ⟨_, rfl⟩
  have HSO : Hid (so = true ↔ 4611686018427387903 < n2 + s.len) := show _ ↔ _ by rw [← hso, hQ, decide_eq_true_iff]; omega
  clear hQ
  have HSL := veil hsl
  clear sr sk sl sb hsl st9 sn9 sg9
  go_wp2_with fail
  refine (wrongC (RD3.out.set HFB.out 2 (.int .u64 ((n2 : Nat) : Int))) so 5).mono ?_
  rintro xx w4 ⟨⟨vv, rfl⟩, hr, hg⟩
  have RF4 := veil (Row.grown ((RF3.out.set 2 (.int .u64 ((n2 : Nat) : Int))) : Row _ (w.heap.size + 1) 37 (frC8 7 n1 n2 0 0 false (.slice none 0 0) (.slice none 0 0))) hg HFG.out)
  have RR4 := veil (Row.grown (RR3.out.other (a := ⟨(w.heap.size + 1), 2, none⟩) HRF.out (.int .u64 ((n2 : Nat) : Int))) hg HRG.out)
  have GG4 := veil ((gset GG3.out HFW.out 2 (.int .u64 ((n2 : Nat) : Int))).trans hg)
  have RD4 := veil hr
  clear cg hcv hsum hso
  clear c0 c1 c2 c3 c4 c5 c6 c7 y0 y1 y2 y3 y4 y5 y6 y7 z0 z1 z2 z3 z4 z5 z6 z7 x0 x1 x2 x3 x4 x5 x6 x7
  clear hr hg RF3 RR3 RD3
  obtain ⟨c0, c1, c2, c3, c4, c5, c6, c7⟩ := frC8_cells RF4.out
  obtain ⟨y0, y1, y2, y3, y4, y5, y6, y7⟩ := frC8_cells RR4.out
  obtain ⟨z0, z1, z2, z3, z4, z5, z6, z7⟩ := frC8_fz RF4.out
  obtain ⟨x0, x1, x2, x3, x4, x5, x6, x7⟩ := frC8_fz RR4.out
  go_wp2_with fail
  refine (dataC RD4.out s.len).mono ?_
  rintro xx w5 ⟨a, k, c, L, b3, e3, rfl, hd, hs, hr, hg⟩
  have RF5 := veil (Row.grown (RF4.out : Row _ (w.heap.size + 1) 37 (frC8 7 n1 n2 0 0 false (.slice none 0 0) (.slice none 0 0))) hg HFG.out)
  have RR5 := veil (Row.grown RR4.out hg HRG.out)
  have GG5 := veil (GG4.out.trans hg)
  have RD5 := veil hr
  have GZ := veil (show w.heap.size ≤ _ from GG4.out.size)
  have HDF : Hid (∀ z, (Value.slice a k c).ownBlock = some z → z ≠ (w.heap.size + 1)) := fun z hz => by have h1 := (hd.lt z hz).1; have h2 := (RF4.out : Row _ (w.heap.size + 1) 37 (frC8 7 n1 n2 0 0 false (.slice none 0 0) (.slice none 0 0))).lt; intro q; rw [q] at h1; (try simp at h1 h2); omega
  have HDR : Hid (∀ z, (Value.slice a k c).ownBlock = some z → z ≠ w.heap.size) := fun z hz => by have h1 := (hd.lt z hz).1; have h2 := RR4.out.lt; intro q; rw [q] at h1; (try simp at h1 h2); omega
  have DR5 := veil (show RowK w.heap.size L _ _ from own_low hd GZ.out)
  have S3 := veil hs
  clear hd hs
  clear c0 c1 c2 c3 c4 c5 c6 c7 y0 y1 y2 y3 y4 y5 y6 y7 z0 z1 z2 z3 z4 z5 z6 z7 x0 x1 x2 x3 x4 x5 x6 x7
  clear hr hg RF4 RR4 RD4
  obtain ⟨c0, c1, c2, c3, c4, c5, c6, c7⟩ := frC8_cells RF5.out
  obtain ⟨y0, y1, y2, y3, y4, y5, y6, y7⟩ := frC8_cells RR5.out
  obtain ⟨z0, z1, z2, z3, z4, z5, z6, z7⟩ := frC8_fz RF5.out
  obtain ⟨x0, x1, x2, x3, x4, x5, x6, x7⟩ := frC8_fz RR5.out
  go_wp2_with fail
  have hfin : Fin base g w _ (w.heap.size) 7 n1 n2 0 0 false (.slice a k c) L b3 e3 := ⟨(RD5.out.set HFB.out 6 (.slice a k c)), (gset GG5.out HFW.out 6 (.slice a k c)), (RR5.out.other (a := ⟨(w.heap.size + 1), 6, none⟩) HRF.out (.slice a k c)), HRW.out, HRB.out, (own_set DR5.out ((w.heap.size + 1)) 6 (.slice a k c) HDF.out), HDR.out, by decide, HN1.out, HN2.out, Nat.zero_le _, Nat.zero_le _⟩
  obtain ⟨F, q1, q2, q3, q4, q5, q6⟩ := hfin.done
  refine bodyPost_ret (result_frame rfl _ _ (w.heap.size) _ _ q6 8 _ rfl Tryz.underlying37 (by kernel_rfl) rfl) rfl ⟨F, _, _, by rw [q1], q3, ?_, q4, q5⟩
  rw [q2]
  exact Fr.sim_then S1.out (Fr.sim_then (show Fr.Sim (if 12 / 4 % 2 = 1 then Fr.numR else Fr.okR 0) _ _ n2 _ _ from by rw [if_pos (by decide)]; exact S2.out) (Fr.sim_then (show Fr.Sim (if 12 / 2 % 2 = 1 then Fr.placedR n2 else Fr.restR n2) _ _ L _ _ from by
      rw [if_neg (by decide)]
      exact sim_rest HSL.out so HSO.out S3.out) (Fr.sim_ok _ _ _)))

set_option maxRecDepth 20000 in
set_option maxHeartbeats 500000 in
theorem stream13 {base g e : Nat} {b : List By} {w : World} (h : Rr base g b e w) (hb : base ≤ w.heap.size) :
    Calls Tryz.prog 121 #[.pointer (some ⟨g, 0, none⟩), .int .u64 13] w fun x w' => FrOut base g (Fr.streamR 13) b e w x w' := by
  obtain ⟨w1, hw1⟩ : ∃ W, W = (w.alloc (.cells (frC8 0 0 0 0 0 false (.slice none 0 0) (.slice none 0 0)) 37)).alloc (.cells (frC8 7 0 0 0 0 true (.slice none 0 0) (.slice none 0 0)) 37) := ⟨_, rfl⟩
  have rr : Row w1 w.heap.size 37 (frC8 0 0 0 0 0 false (.slice none 0 0) (.slice none 0 0)) := by rw [hw1]; exact (Row.new _ _ _).alloc _
  have rf : Row w1 (w.heap.size + 1) 37 (frC8 7 0 0 0 0 true (.slice none 0 0) (.slice none 0 0)) := by rw [hw1]; exact Row.new1 _ _ _ _
  have gg : w.grownBy w1 (some g) := by rw [hw1]; exact (grown_alloc _ _).trans (grown_alloc _ _)
  have rd : Rr base g b e w1 := by rw [hw1]; exact (h.alloc hb _).alloc (by simp; omega) _
  have hlt := h.lt
  have HFB := veil (show base ≤ w.heap.size + 1 by omega)
  have HFW := veil (show w.heap.size ≤ w.heap.size + 1 by omega)
  have HRF := veil (show w.heap.size ≠ w.heap.size + 1 by omega)
  have HFG := veil (show w.heap.size + 1 ≠ g by omega)
  have HRG := veil (show w.heap.size ≠ g by omega)
  have HRW := veil (Nat.le_refl w.heap.size)
  have HRB := veil hb
  have hrf : w.heap.size ≠ w.heap.size + 1 := HRF.out
  have hgf : g ≠ w.heap.size + 1 := fun q => HFG.out q.symm
  have hgr : g ≠ w.heap.size := fun q => HRG.out q.symm
  have RF1 := veil rf
  have RR1 := veil rr
  have GG1 := veil gg
  have RD1 := veil rd
  clear rf rr gg rd h hb hlt
  go_enter Tryz.func121, Tryz.ntmps121
  obtain ⟨c0, c1, c2, c3, c4, c5, c6, c7⟩ := frC8_cells RF1.out
  obtain ⟨y0, y1, y2, y3, y4, y5, y6, y7⟩ := frC8_cells RR1.out
  obtain ⟨z0, z1, z2, z3, z4, z5, z6, z7⟩ := frC8_fz RF1.out
  obtain ⟨x0, x1, x2, x3, x4, x5, x6, x7⟩ := frC8_fz RR1.out
  go_wp2_with fail
  show Calls _ _ _ ((w.alloc (.cells (frC8 0 0 0 0 0 false (.slice none 0 0) (.slice none 0 0)) 37)).alloc (.cells (frC8 7 0 0 0 0 true (.slice none 0 0) (.slice none 0 0)) 37)) _
  rw [← hw1]
  refine (numberC RD1.out).mono ?_
  rintro xx w2 ⟨n1, b1, e1, rfl, hn, hs, hr, hg⟩
  have RF2 := veil (Row.grown (RF1.out : Row _ (w.heap.size + 1) 37 (frC8 7 0 0 0 0 true (.slice none 0 0) (.slice none 0 0))) hg HFG.out)
  have RR2 := veil (Row.grown RR1.out hg HRG.out)
  have GG2 := veil (GG1.out.trans hg)
  have RD2 := veil hr
  have HN1 := veil hn
  have S1 := veil hs
  clear hn hs
  clear c0 c1 c2 c3 c4 c5 c6 c7 y0 y1 y2 y3 y4 y5 y6 y7 z0 z1 z2 z3 z4 z5 z6 z7 x0 x1 x2 x3 x4 x5 x6 x7
  clear hr hg RF1 RR1 RD1
  obtain ⟨c0, c1, c2, c3, c4, c5, c6, c7⟩ := frC8_cells RF2.out
  obtain ⟨y0, y1, y2, y3, y4, y5, y6, y7⟩ := frC8_cells RR2.out
  obtain ⟨z0, z1, z2, z3, z4, z5, z6, z7⟩ := frC8_fz RF2.out
  obtain ⟨x0, x1, x2, x3, x4, x5, x6, x7⟩ := frC8_fz RR2.out
  go_wp2_with fail
  refine (numberC (RD2.out.set HFB.out 1 (.int .u64 ((n1 : Nat) : Int)))).mono ?_
  rintro xx w3 ⟨n2, b2, e2, rfl, hn, hs, hr, hg⟩
  have RF3 := veil (Row.grown ((RF2.out.set 1 (.int .u64 ((n1 : Nat) : Int))) : Row _ (w.heap.size + 1) 37 (frC8 7 n1 0 0 0 true (.slice none 0 0) (.slice none 0 0))) hg HFG.out)
  have RR3 := veil (Row.grown (RR2.out.other (a := ⟨(w.heap.size + 1), 1, none⟩) HRF.out (.int .u64 ((n1 : Nat) : Int))) hg HRG.out)
  have GG3 := veil ((gset GG2.out HFW.out 1 (.int .u64 ((n1 : Nat) : Int))).trans hg)
  have RD3 := veil hr
  have HN2 := veil hn
  have S2 := veil hs
  clear hn hs
  clear c0 c1 c2 c3 c4 c5 c6 c7 y0 y1 y2 y3 y4 y5 y6 y7 z0 z1 z2 z3 z4 z5 z6 z7 x0 x1 x2 x3 x4 x5 x6 x7
  clear hr hg RF2 RR2 RD2
  obtain ⟨c0, c1, c2, c3, c4, c5, c6, c7⟩ := frC8_cells RF3.out
  obtain ⟨y0, y1, y2, y3, y4, y5, y6, y7⟩ := frC8_cells RR3.out
  obtain ⟨z0, z1, z2, z3, z4, z5, z6, z7⟩ := frC8_fz RF3.out
  obtain ⟨x0, x1, x2, x3, x4, x5, x6, x7⟩ := frC8_fz RR3.out
  obtain ⟨s, sr, sk, st9, sn9, sl, sb, sg9⟩ := RD3.out
  have cg : w3.cell? ⟨g, 0, none⟩ = some (.slice s.a s.len s.cap) := sr.cell 0
  have hsl : s.len = b2.length := by rw [← sb, sk.hb]
  have hcv : IntKind.u64.wrap (s.len : Int) = (s.len : Int) := by rw [IntKind.wrap_u64]; omega
  obtain ⟨Q, hQ⟩ : ∃ Q : Nat, n2 + s.len = Q := ⟨_, rfl⟩
  have hsum : IntKind.u64.wrap ((n2 : Int) + (s.len : Int)) = (Q : Int) := by have := HN2.out; rw [IntKind.wrap_u64]; omega
  obtain ⟨so, hso⟩ : ∃ so : Bool, decide ((4611686018427387903 : Int) < (Q : Int)) = so := ⟨_, rfl⟩
  have HSO : Hid (so = true ↔ 4611686018427387903 < n2 + s.len) := show _ ↔ _ by rw [← hso, hQ, decide_eq_true_iff]; omega
  clear hQ
  have HSL := veil hsl
  clear sr sk sl sb hsl st9 sn9 sg9
  go_wp2_with fail
  refine (wrongC (RD3.out.set HFB.out 2 (.int .u64 ((n2 : Nat) : Int))) so 5).mono ?_
  rintro xx w4 ⟨⟨vv, rfl⟩, hr, hg⟩
  have RF4 := veil (Row.grown ((RF3.out.set 2 (.int .u64 ((n2 : Nat) : Int))) : Row _ (w.heap.size + 1) 37 (frC8 7 n1 n2 0 0 true (.slice none 0 0) (.slice none 0 0))) hg HFG.out)
  have RR4 := veil (Row.grown (RR3.out.other (a := ⟨(w.heap.size + 1), 2, none⟩) HRF.out (.int .u64 ((n2 : Nat) : Int))) hg HRG.out)
  have GG4 := veil ((gset GG3.out HFW.out 2 (.int .u64 ((n2 : Nat) : Int))).trans hg)
  have RD4 := veil hr
  clear cg hcv hsum hso
  clear c0 c1 c2 c3 c4 c5 c6 c7 y0 y1 y2 y3 y4 y5 y6 y7 z0 z1 z2 z3 z4 z5 z6 z7 x0 x1 x2 x3 x4 x5 x6 x7
  clear hr hg RF3 RR3 RD3
  obtain ⟨c0, c1, c2, c3, c4, c5, c6, c7⟩ := frC8_cells RF4.out
  obtain ⟨y0, y1, y2, y3, y4, y5, y6, y7⟩ := frC8_cells RR4.out
  obtain ⟨z0, z1, z2, z3, z4, z5, z6, z7⟩ := frC8_fz RF4.out
  obtain ⟨x0, x1, x2, x3, x4, x5, x6, x7⟩ := frC8_fz RR4.out
  go_wp2_with fail
  refine (dataC RD4.out s.len).mono ?_
  rintro xx w5 ⟨a, k, c, L, b3, e3, rfl, hd, hs, hr, hg⟩
  have RF5 := veil (Row.grown (RF4.out : Row _ (w.heap.size + 1) 37 (frC8 7 n1 n2 0 0 true (.slice none 0 0) (.slice none 0 0))) hg HFG.out)
  have RR5 := veil (Row.grown RR4.out hg HRG.out)
  have GG5 := veil (GG4.out.trans hg)
  have RD5 := veil hr
  have GZ := veil (show w.heap.size ≤ _ from GG4.out.size)
  have HDF : Hid (∀ z, (Value.slice a k c).ownBlock = some z → z ≠ (w.heap.size + 1)) := fun z hz => by have h1 := (hd.lt z hz).1; have h2 := (RF4.out : Row _ (w.heap.size + 1) 37 (frC8 7 n1 n2 0 0 true (.slice none 0 0) (.slice none 0 0))).lt; intro q; rw [q] at h1; (try simp at h1 h2); omega
  have HDR : Hid (∀ z, (Value.slice a k c).ownBlock = some z → z ≠ w.heap.size) := fun z hz => by have h1 := (hd.lt z hz).1; have h2 := RR4.out.lt; intro q; rw [q] at h1; (try simp at h1 h2); omega
  have DR5 := veil (show RowK w.heap.size L _ _ from own_low hd GZ.out)
  have S3 := veil hs
  clear hd hs
  clear c0 c1 c2 c3 c4 c5 c6 c7 y0 y1 y2 y3 y4 y5 y6 y7 z0 z1 z2 z3 z4 z5 z6 z7 x0 x1 x2 x3 x4 x5 x6 x7
  clear hr hg RF4 RR4 RD4
  obtain ⟨c0, c1, c2, c3, c4, c5, c6, c7⟩ := frC8_cells RF5.out
  obtain ⟨y0, y1, y2, y3, y4, y5, y6, y7⟩ := frC8_cells RR5.out
  obtain ⟨z0, z1, z2, z3, z4, z5, z6, z7⟩ := frC8_fz RF5.out
  obtain ⟨x0, x1, x2, x3, x4, x5, x6, x7⟩ := frC8_fz RR5.out
  go_wp2_with fail
  have hfin : Fin base g w _ (w.heap.size) 7 n1 n2 0 0 true (.slice a k c) L b3 e3 := ⟨(RD5.out.set HFB.out 6 (.slice a k c)), (gset GG5.out HFW.out 6 (.slice a k c)), (RR5.out.other (a := ⟨(w.heap.size + 1), 6, none⟩) HRF.out (.slice a k c)), HRW.out, HRB.out, (own_set DR5.out ((w.heap.size + 1)) 6 (.slice a k c) HDF.out), HDR.out, by decide, HN1.out, HN2.out, Nat.zero_le _, Nat.zero_le _⟩
  obtain ⟨F, q1, q2, q3, q4, q5, q6⟩ := hfin.done
  refine bodyPost_ret (result_frame rfl _ _ (w.heap.size) _ _ q6 8 _ rfl Tryz.underlying37 (by kernel_rfl) rfl) rfl ⟨F, _, _, by rw [q1], q3, ?_, q4, q5⟩
  rw [q2]
  exact Fr.sim_then S1.out (Fr.sim_then (show Fr.Sim (if 13 / 4 % 2 = 1 then Fr.numR else Fr.okR 0) _ _ n2 _ _ from by rw [if_pos (by decide)]; exact S2.out) (Fr.sim_then (show Fr.Sim (if 13 / 2 % 2 = 1 then Fr.placedR n2 else Fr.restR n2) _ _ L _ _ from by
      rw [if_neg (by decide)]
      exact sim_rest HSL.out so HSO.out S3.out) (Fr.sim_ok _ _ _)))

set_option maxRecDepth 20000 in
set_option maxHeartbeats 500000 in
theorem stream14 {base g e : Nat} {b : List By} {w : World} (h : Rr base g b e w) (hb : base ≤ w.heap.size) :
    Calls Tryz.prog 121 #[.pointer (some ⟨g, 0, none⟩), .int .u64 14] w fun x w' => FrOut base g (Fr.streamR 14) b e w x w' := by
  obtain ⟨w1, hw1⟩ : ∃ W, W = (w.alloc (.cells (frC8 0 0 0 0 0 false (.slice none 0 0) (.slice none 0 0)) 37)).alloc (.cells (frC8 7 0 0 0 0 false (.slice none 0 0) (.slice none 0 0)) 37) := ⟨_, rfl⟩
  have rr : Row w1 w.heap.size 37 (frC8 0 0 0 0 0 false (.slice none 0 0) (.slice none 0 0)) := by rw [hw1]; exact (Row.new _ _ _).alloc _
  have rf : Row w1 (w.heap.size + 1) 37 (frC8 7 0 0 0 0 false (.slice none 0 0) (.slice none 0 0)) := by rw [hw1]; exact Row.new1 _ _ _ _
  have gg : w.grownBy w1 (some g) := by rw [hw1]; exact (grown_alloc _ _).trans (grown_alloc _ _)
  have rd : Rr base g b e w1 := by rw [hw1]; exact (h.alloc hb _).alloc (by simp; omega) _
  have hlt := h.lt
  have HFB := veil (show base ≤ w.heap.size + 1 by omega)
  have HFW := veil (show w.heap.size ≤ w.heap.size + 1 by omega)
  have HRF := veil (show w.heap.size ≠ w.heap.size + 1 by omega)
  have HFG := veil (show w.heap.size + 1 ≠ g by omega)
  have HRG := veil (show w.heap.size ≠ g by omega)
  have HRW := veil (Nat.le_refl w.heap.size)
  have HRB := veil hb
  have hrf : w.heap.size ≠ w.heap.size + 1 := HRF.out
  have hgf : g ≠ w.heap.size + 1 := fun q => HFG.out q.symm
  have hgr : g ≠ w.heap.size := fun q => HRG.out q.symm
  have RF1 := veil rf
  have RR1 := veil rr
  have GG1 := veil gg
  have RD1 := veil rd
  clear rf rr gg rd h hb hlt
  go_enter Tryz.func121, Tryz.ntmps121
  obtain ⟨c0, c1, c2, c3, c4, c5, c6, c7⟩ := frC8_cells RF1.out
  obtain ⟨y0, y1, y2, y3, y4, y5, y6, y7⟩ := frC8_cells RR1.out
  obtain ⟨z0, z1, z2, z3, z4, z5, z6, z7⟩ := frC8_fz RF1.out
  obtain ⟨x0, x1, x2, x3, x4, x5, x6, x7⟩ := frC8_fz RR1.out
  go_wp2_with fail
  show Calls _ _ _ ((w.alloc (.cells (frC8 0 0 0 0 0 false (.slice none 0 0) (.slice none 0 0)) 37)).alloc (.cells (frC8 7 0 0 0 0 false (.slice none 0 0) (.slice none 0 0)) 37)) _
  rw [← hw1]
  refine (numberC RD1.out).mono ?_
  rintro xx w2 ⟨n1, b1, e1, rfl, hn, hs, hr, hg⟩
  have RF2 := veil (Row.grown (RF1.out : Row _ (w.heap.size + 1) 37 (frC8 7 0 0 0 0 false (.slice none 0 0) (.slice none 0 0))) hg HFG.out)
  have RR2 := veil (Row.grown RR1.out hg HRG.out)
  have GG2 := veil (GG1.out.trans hg)
  have RD2 := veil hr
  have HN1 := veil hn
  have S1 := veil hs
  clear hn hs
  clear c0 c1 c2 c3 c4 c5 c6 c7 y0 y1 y2 y3 y4 y5 y6 y7 z0 z1 z2 z3 z4 z5 z6 z7 x0 x1 x2 x3 x4 x5 x6 x7
  clear hr hg RF1 RR1 RD1
  obtain ⟨c0, c1, c2, c3, c4, c5, c6, c7⟩ := frC8_cells RF2.out
  obtain ⟨y0, y1, y2, y3, y4, y5, y6, y7⟩ := frC8_cells RR2.out
  obtain ⟨z0, z1, z2, z3, z4, z5, z6, z7⟩ := frC8_fz RF2.out
  obtain ⟨x0, x1, x2, x3, x4, x5, x6, x7⟩ := frC8_fz RR2.out
  go_wp2_with fail
  refine (numberC (RD2.out.set HFB.out 1 (.int .u64 ((n1 : Nat) : Int)))).mono ?_
  rintro xx w3 ⟨n2, b2, e2, rfl, hn, hs, hr, hg⟩
  have RF3 := veil (Row.grown ((RF2.out.set 1 (.int .u64 ((n1 : Nat) : Int))) : Row _ (w.heap.size + 1) 37 (frC8 7 n1 0 0 0 false (.slice none 0 0) (.slice none 0 0))) hg HFG.out)
  have RR3 := veil (Row.grown (RR2.out.other (a := ⟨(w.heap.size + 1), 1, none⟩) HRF.out (.int .u64 ((n1 : Nat) : Int))) hg HRG.out)
  have GG3 := veil ((gset GG2.out HFW.out 1 (.int .u64 ((n1 : Nat) : Int))).trans hg)
  have RD3 := veil hr
  have HN2 := veil hn
  have S2 := veil hs
  clear hn hs
  clear c0 c1 c2 c3 c4 c5 c6 c7 y0 y1 y2 y3 y4 y5 y6 y7 z0 z1 z2 z3 z4 z5 z6 z7 x0 x1 x2 x3 x4 x5 x6 x7
  clear hr hg RF2 RR2 RD2
  obtain ⟨c0, c1, c2, c3, c4, c5, c6, c7⟩ := frC8_cells RF3.out
  obtain ⟨y0, y1, y2, y3, y4, y5, y6, y7⟩ := frC8_cells RR3.out
  obtain ⟨z0, z1, z2, z3, z4, z5, z6, z7⟩ := frC8_fz RF3.out
  obtain ⟨x0, x1, x2, x3, x4, x5, x6, x7⟩ := frC8_fz RR3.out
  go_wp2_with fail
  refine (placedC (RD3.out.set HFB.out 2 (.int .u64 ((n2 : Nat) : Int))) n2 HN2.out).mono ?_
  rintro xx w4 ⟨a, k, c, L, b3, e3, rfl, hd, hs, hr, hg⟩
  have RF4 := veil (Row.grown ((RF3.out.set 2 (.int .u64 ((n2 : Nat) : Int))) : Row _ (w.heap.size + 1) 37 (frC8 7 n1 n2 0 0 false (.slice none 0 0) (.slice none 0 0))) hg HFG.out)
  have RR4 := veil (Row.grown (RR3.out.other (a := ⟨(w.heap.size + 1), 2, none⟩) HRF.out (.int .u64 ((n2 : Nat) : Int))) hg HRG.out)
  have GG4 := veil ((gset GG3.out HFW.out 2 (.int .u64 ((n2 : Nat) : Int))).trans hg)
  have RD4 := veil hr
  have GZ := veil (show w.heap.size ≤ _ from (gset GG3.out HFW.out 2 (.int .u64 ((n2 : Nat) : Int))).size)
  have HDF : Hid (∀ z, (Value.slice a k c).ownBlock = some z → z ≠ (w.heap.size + 1)) := fun z hz => by have h1 := (hd.lt z hz).1; have h2 := ((RF3.out.set 2 (.int .u64 ((n2 : Nat) : Int))) : Row _ (w.heap.size + 1) 37 (frC8 7 n1 n2 0 0 false (.slice none 0 0) (.slice none 0 0))).lt; intro q; rw [q] at h1; (try simp at h1 h2); omega
  have HDR : Hid (∀ z, (Value.slice a k c).ownBlock = some z → z ≠ w.heap.size) := fun z hz => by have h1 := (hd.lt z hz).1; have h2 := (RR3.out.other (a := ⟨(w.heap.size + 1), 2, none⟩) HRF.out (.int .u64 ((n2 : Nat) : Int))).lt; intro q; rw [q] at h1; (try simp at h1 h2); omega
  have DR4 := veil (show RowK w.heap.size L _ _ from own_low hd GZ.out)
  have S3 := veil hs
  clear hd hs
  clear c0 c1 c2 c3 c4 c5 c6 c7 y0 y1 y2 y3 y4 y5 y6 y7 z0 z1 z2 z3 z4 z5 z6 z7 x0 x1 x2 x3 x4 x5 x6 x7
  clear hr hg RF3 RR3 RD3
  obtain ⟨c0, c1, c2, c3, c4, c5, c6, c7⟩ := frC8_cells RF4.out
  obtain ⟨y0, y1, y2, y3, y4, y5, y6, y7⟩ := frC8_cells RR4.out
  obtain ⟨z0, z1, z2, z3, z4, z5, z6, z7⟩ := frC8_fz RF4.out
  obtain ⟨x0, x1, x2, x3, x4, x5, x6, x7⟩ := frC8_fz RR4.out
  go_wp2_with fail
  have hfin : Fin base g w _ (w.heap.size) 7 n1 n2 0 0 false (.slice a k c) L b3 e3 := ⟨(RD4.out.set HFB.out 6 (.slice a k c)), (gset GG4.out HFW.out 6 (.slice a k c)), (RR4.out.other (a := ⟨(w.heap.size + 1), 6, none⟩) HRF.out (.slice a k c)), HRW.out, HRB.out, (own_set DR4.out ((w.heap.size + 1)) 6 (.slice a k c) HDF.out), HDR.out, by decide, HN1.out, HN2.out, Nat.zero_le _, Nat.zero_le _⟩
  obtain ⟨F, q1, q2, q3, q4, q5, q6⟩ := hfin.done
  refine bodyPost_ret (result_frame rfl _ _ (w.heap.size) _ _ q6 8 _ rfl Tryz.underlying37 (by kernel_rfl) rfl) rfl ⟨F, _, _, by rw [q1], q3, ?_, q4, q5⟩
  rw [q2]
  exact Fr.sim_then S1.out (Fr.sim_then (show Fr.Sim (if 14 / 4 % 2 = 1 then Fr.numR else Fr.okR 0) _ _ n2 _ _ from by rw [if_pos (by decide)]; exact S2.out) (Fr.sim_then (show Fr.Sim (if 14 / 2 % 2 = 1 then Fr.placedR n2 else Fr.restR n2) _ _ L _ _ from by rw [if_pos (by decide)]; exact S3.out) (Fr.sim_ok _ _ _)))

set_option maxRecDepth 20000 in
set_option maxHeartbeats 500000 in
theorem stream15 {base g e : Nat} {b : List By} {w : World} (h : Rr base g b e w) (hb : base ≤ w.heap.size) :
    Calls Tryz.prog 121 #[.pointer (some ⟨g, 0, none⟩), .int .u64 15] w fun x w' => FrOut base g (Fr.streamR 15) b e w x w' := by
  obtain ⟨w1, hw1⟩ : ∃ W, W = (w.alloc (.cells (frC8 0 0 0 0 0 false (.slice none 0 0) (.slice none 0 0)) 37)).alloc (.cells (frC8 7 0 0 0 0 true (.slice none 0 0) (.slice none 0 0)) 37) := ⟨_, rfl⟩
  have rr : Row w1 w.heap.size 37 (frC8 0 0 0 0 0 false (.slice none 0 0) (.slice none 0 0)) := by rw [hw1]; exact (Row.new _ _ _).alloc _
  have rf : Row w1 (w.heap.size + 1) 37 (frC8 7 0 0 0 0 true (.slice none 0 0) (.slice none 0 0)) := by rw [hw1]; exact Row.new1 _ _ _ _
  have gg : w.grownBy w1 (some g) := by rw [hw1]; exact (grown_alloc _ _).trans (grown_alloc _ _)
  have rd : Rr base g b e w1 := by rw [hw1]; exact (h.alloc hb _).alloc (by simp; omega) _
  have hlt := h.lt
  have HFB := veil (show base ≤ w.heap.size + 1 by omega)
  have HFW := veil (show w.heap.size ≤ w.heap.size + 1 by omega)
  have HRF := veil (show w.heap.size ≠ w.heap.size + 1 by omega)
  have HFG := veil (show w.heap.size + 1 ≠ g by omega)
  have HRG := veil (show w.heap.size ≠ g by omega)
  have HRW := veil (Nat.le_refl w.heap.size)
  have HRB := veil hb
  have hrf : w.heap.size ≠ w.heap.size + 1 := HRF.out
  have hgf : g ≠ w.heap.size + 1 := fun q => HFG.out q.symm
  have hgr : g ≠ w.heap.size := fun q => HRG.out q.symm
  have RF1 := veil rf
  have RR1 := veil rr
  have GG1 := veil gg
  have RD1 := veil rd
  clear rf rr gg rd h hb hlt
  go_enter Tryz.func121, Tryz.ntmps121
  obtain ⟨c0, c1, c2, c3, c4, c5, c6, c7⟩ := frC8_cells RF1.out
  obtain ⟨y0, y1, y2, y3, y4, y5, y6, y7⟩ := frC8_cells RR1.out
  obtain ⟨z0, z1, z2, z3, z4, z5, z6, z7⟩ := frC8_fz RF1.out
  obtain ⟨x0, x1, x2, x3, x4, x5, x6, x7⟩ := frC8_fz RR1.out
  go_wp2_with fail
  show Calls _ _ _ ((w.alloc (.cells (frC8 0 0 0 0 0 false (.slice none 0 0) (.slice none 0 0)) 37)).alloc (.cells (frC8 7 0 0 0 0 true (.slice none 0 0) (.slice none 0 0)) 37)) _
  rw [← hw1]
  refine (numberC RD1.out).mono ?_
  rintro xx w2 ⟨n1, b1, e1, rfl, hn, hs, hr, hg⟩
  have RF2 := veil (Row.grown (RF1.out : Row _ (w.heap.size + 1) 37 (frC8 7 0 0 0 0 true (.slice none 0 0) (.slice none 0 0))) hg HFG.out)
  have RR2 := veil (Row.grown RR1.out hg HRG.out)
  have GG2 := veil (GG1.out.trans hg)
  have RD2 := veil hr
  have HN1 := veil hn
  have S1 := veil hs
  clear hn hs
  clear c0 c1 c2 c3 c4 c5 c6 c7 y0 y1 y2 y3 y4 y5 y6 y7 z0 z1 z2 z3 z4 z5 z6 z7 x0 x1 x2 x3 x4 x5 x6 x7
  clear hr hg RF1 RR1 RD1
  obtain ⟨c0, c1, c2, c3, c4, c5, c6, c7⟩ := frC8_cells RF2.out
  obtain ⟨y0, y1, y2, y3, y4, y5, y6, y7⟩ := frC8_cells RR2.out
  obtain ⟨z0, z1, z2, z3, z4, z5, z6, z7⟩ := frC8_fz RF2.out
  obtain ⟨x0, x1, x2, x3, x4, x5, x6, x7⟩ := frC8_fz RR2.out
  go_wp2_with fail
  refine (numberC (RD2.out.set HFB.out 1 (.int .u64 ((n1 : Nat) : Int)))).mono ?_
  rintro xx w3 ⟨n2, b2, e2, rfl, hn, hs, hr, hg⟩
  have RF3 := veil (Row.grown ((RF2.out.set 1 (.int .u64 ((n1 : Nat) : Int))) : Row _ (w.heap.size + 1) 37 (frC8 7 n1 0 0 0 true (.slice none 0 0) (.slice none 0 0))) hg HFG.out)
  have RR3 := veil (Row.grown (RR2.out.other (a := ⟨(w.heap.size + 1), 1, none⟩) HRF.out (.int .u64 ((n1 : Nat) : Int))) hg HRG.out)
  have GG3 := veil ((gset GG2.out HFW.out 1 (.int .u64 ((n1 : Nat) : Int))).trans hg)
  have RD3 := veil hr
  have HN2 := veil hn
  have S2 := veil hs
  clear hn hs
  clear c0 c1 c2 c3 c4 c5 c6 c7 y0 y1 y2 y3 y4 y5 y6 y7 z0 z1 z2 z3 z4 z5 z6 z7 x0 x1 x2 x3 x4 x5 x6 x7
  clear hr hg RF2 RR2 RD2
  obtain ⟨c0, c1, c2, c3, c4, c5, c6, c7⟩ := frC8_cells RF3.out
  obtain ⟨y0, y1, y2, y3, y4, y5, y6, y7⟩ := frC8_cells RR3.out
  obtain ⟨z0, z1, z2, z3, z4, z5, z6, z7⟩ := frC8_fz RF3.out
  obtain ⟨x0, x1, x2, x3, x4, x5, x6, x7⟩ := frC8_fz RR3.out
  go_wp2_with fail
  refine (placedC (RD3.out.set HFB.out 2 (.int .u64 ((n2 : Nat) : Int))) n2 HN2.out).mono ?_
  rintro xx w4 ⟨a, k, c, L, b3, e3, rfl, hd, hs, hr, hg⟩
  have RF4 := veil (Row.grown ((RF3.out.set 2 (.int .u64 ((n2 : Nat) : Int))) : Row _ (w.heap.size + 1) 37 (frC8 7 n1 n2 0 0 true (.slice none 0 0) (.slice none 0 0))) hg HFG.out)
  have RR4 := veil (Row.grown (RR3.out.other (a := ⟨(w.heap.size + 1), 2, none⟩) HRF.out (.int .u64 ((n2 : Nat) : Int))) hg HRG.out)
  have GG4 := veil ((gset GG3.out HFW.out 2 (.int .u64 ((n2 : Nat) : Int))).trans hg)
  have RD4 := veil hr
  have GZ := veil (show w.heap.size ≤ _ from (gset GG3.out HFW.out 2 (.int .u64 ((n2 : Nat) : Int))).size)
  have HDF : Hid (∀ z, (Value.slice a k c).ownBlock = some z → z ≠ (w.heap.size + 1)) := fun z hz => by have h1 := (hd.lt z hz).1; have h2 := ((RF3.out.set 2 (.int .u64 ((n2 : Nat) : Int))) : Row _ (w.heap.size + 1) 37 (frC8 7 n1 n2 0 0 true (.slice none 0 0) (.slice none 0 0))).lt; intro q; rw [q] at h1; (try simp at h1 h2); omega
  have HDR : Hid (∀ z, (Value.slice a k c).ownBlock = some z → z ≠ w.heap.size) := fun z hz => by have h1 := (hd.lt z hz).1; have h2 := (RR3.out.other (a := ⟨(w.heap.size + 1), 2, none⟩) HRF.out (.int .u64 ((n2 : Nat) : Int))).lt; intro q; rw [q] at h1; (try simp at h1 h2); omega
  have DR4 := veil (show RowK w.heap.size L _ _ from own_low hd GZ.out)
  have S3 := veil hs
  clear hd hs
  clear c0 c1 c2 c3 c4 c5 c6 c7 y0 y1 y2 y3 y4 y5 y6 y7 z0 z1 z2 z3 z4 z5 z6 z7 x0 x1 x2 x3 x4 x5 x6 x7
  clear hr hg RF3 RR3 RD3
  obtain ⟨c0, c1, c2, c3, c4, c5, c6, c7⟩ := frC8_cells RF4.out
  obtain ⟨y0, y1, y2, y3, y4, y5, y6, y7⟩ := frC8_cells RR4.out
  obtain ⟨z0, z1, z2, z3, z4, z5, z6, z7⟩ := frC8_fz RF4.out
  obtain ⟨x0, x1, x2, x3, x4, x5, x6, x7⟩ := frC8_fz RR4.out
  go_wp2_with fail
  have hfin : Fin base g w _ (w.heap.size) 7 n1 n2 0 0 true (.slice a k c) L b3 e3 := ⟨(RD4.out.set HFB.out 6 (.slice a k c)), (gset GG4.out HFW.out 6 (.slice a k c)), (RR4.out.other (a := ⟨(w.heap.size + 1), 6, none⟩) HRF.out (.slice a k c)), HRW.out, HRB.out, (own_set DR4.out ((w.heap.size + 1)) 6 (.slice a k c) HDF.out), HDR.out, by decide, HN1.out, HN2.out, Nat.zero_le _, Nat.zero_le _⟩
  obtain ⟨F, q1, q2, q3, q4, q5, q6⟩ := hfin.done
  refine bodyPost_ret (result_frame rfl _ _ (w.heap.size) _ _ q6 8 _ rfl Tryz.underlying37 (by kernel_rfl) rfl) rfl ⟨F, _, _, by rw [q1], q3, ?_, q4, q5⟩
  rw [q2]
  exact Fr.sim_then S1.out (Fr.sim_then (show Fr.Sim (if 15 / 4 % 2 = 1 then Fr.numR else Fr.okR 0) _ _ n2 _ _ from by rw [if_pos (by decide)]; exact S2.out) (Fr.sim_then (show Fr.Sim (if 15 / 2 % 2 = 1 then Fr.placedR n2 else Fr.restR n2) _ _ L _ _ from by rw [if_pos (by decide)]; exact S3.out) (Fr.sim_ok _ _ _)))
end Go.Proofs.YtimhbjlmpojhoaaGreatDoor
