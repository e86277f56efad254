/-
  What the statements' helper LeftFrame answers of a copy that is kept.
-/
import Derived.Test.YtaighdppemnglaaGreatDoorGf15
namespace Go.Proofs.YtaighdppemnglaaGreatDoor
open Go Go.RowKit

set_option maxRecDepth 20000 in
set_option maxHeartbeats 1000000 in
theorem left_fr (f : FrM) (g1 g2 : Nat) (w : World) (hf : f.Ok w) (ld : f.data.len ≤ 1048576) (lr : f.ranges.len ≤ 1048576) (t1 : Twin w g1 f.data.b) (t2 : TwinR w g2 f.ranges.l) :
    Calls Tryz.prog 28 #[.agg (f.twin g1 g2).cells, .agg f.cells] w fun e w' => e = .returned (.bool true) ∧ Below w.heap.size w w' := by
  obtain ⟨W0, hW0⟩ : ∃ W, W = (w.alloc (.cells (f.twin g1 g2).cells 37)).alloc (.cells f.cells 37) := ⟨_, rfl⟩
  have r0 : Row W0 w.heap.size 37 (f.twin g1 g2).cells := by rw [hW0]; exact (Row.new _ _ _).alloc _
  have q0 : Row W0 (w.heap.size + 1) 37 f.cells := by rw [hW0]; exact Row.new1 _ _ _ _
  have b0 : Below w.heap.size w W0 := by rw [hW0]; exact ((Below.refl _ w).alloc (Nat.le_refl _) _).alloc (by simp) _
  have HF := veil hf
  have HLD := veil ld
  have HLR := veil lr
  have T1 := veil t1
  have T2 := veil t2
  clear hf ld lr t1 t2
  obtain ⟨x0, x1, x2, x3, x4, x5, x6, x7⟩ := fr_cells r0
  obtain ⟨c0, c1, c2, c3, c4, c5, c6, c7⟩ := fr_cells q0
  simp only [FrM.twin, twinS, twinRS] at x0 x1 x2 x3 x4 x5 x6 x7
  rw [hW0] at x0 x1 x2 x3 x4 x5 x6 x7 c0 c1 c2 c3 c4 c5 c6 c7
  have HR := veil r0
  have HQ := veil q0
  have HB0 := veil b0
  have hlr := r0.lt
  have hlq := q0.lt
  clear r0 q0 b0
  have e0 : ((f.kind : Int) == (f.kind : Int)) = true := by simp
  have e1 : ((f.stream : Int) == (f.stream : Int)) = true := by simp
  have e2 : ((f.offset : Int) == (f.offset : Int)) = true := by simp
  have e3 : ((f.limit : Int) == (f.limit : Int)) = true := by simp
  have e4 : ((f.code : Int) == (f.code : Int)) = true := by simp
  have e5 : (f.fin == f.fin) = true := by simp
  go_enter Tryz.func28, Tryz.ntmps28
  go_wp2_with fail
  rw [← hW0]
  refine (left_sl f.data g1 W0 (HF.out.data.below HB0.out) (by have := HLD.out; omega) (T1.out.below HB0.out)).mono ?_
  rintro e1 w1 ⟨rfl, hb1⟩
  have b1 := HB0.out.trans (hb1.mono HB0.out.size)
  have r1 := HR.out.below hb1 hlr
  have q1 := HQ.out.below hb1 hlq
  clear hb1 x0 x1 x2 x3 x4 x5 x6 x7 c0 c1 c2 c3 c4 c5 c6 c7
  obtain ⟨_, _, _, _, _, _, _, x7⟩ := fr_cells r1
  obtain ⟨_, _, _, _, _, _, _, c7⟩ := fr_cells q1
  simp only [FrM.twin, twinRS] at x7
  have HB1 := veil b1
  clear r1 q1 b1
  go_wp2_with fail
  refine (left_rl f.ranges g2 w1 (HF.out.ranges.below HB1.out) HLR.out (T2.out.below HB1.out)).mono ?_
  rintro e2 w2 ⟨rfl, hb2⟩
  have b2 := HB1.out.trans (hb2.mono HB1.out.size)
  clear hb2
  go_wp2_with fail
  go_ret
  exact ⟨rfl, b2⟩
end Go.Proofs.YtaighdppemnglaaGreatDoor
