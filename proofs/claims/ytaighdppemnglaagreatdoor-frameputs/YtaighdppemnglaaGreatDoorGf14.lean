/-
  Out of FrRefMayK, FrRefAll, RgVr.
-/
import Derived.Test.YtaighdppemnglaaGreatDoorGf12
import Derived.Test.YtaighdppemnglaaGreatDoorGf13
import Derived.Test.YtaighdppemnglaaGreatDoorGf5

/-! The document's May, for each kind. Written by mkrefmay.py. -/
namespace Go.Proofs.YtaighdppemnglaaGreatDoor
open Go Go.RowKit

set_option maxRecDepth 20000 in
set_option maxHeartbeats 4000000 in
theorem ref_may_1 (f : FrM) (w : World) (hk : f.kind = 1) (hf : f.Ok w) (hdl : f.data.len ≤ 4194304) :
    Calls Tryz.prog 26 #[.agg f.cells] w fun e w' => (e = .returned (.bool true) ∧ Fr.mayF f.fr ∨ e = .returned (.bool false) ∧ ¬ Fr.mayF f.fr) ∧ Below w.heap.size w w' := by
  obtain ⟨k, st, of, li, co, fi, da, ra⟩ := f
  simp only at hk hdl
  subst hk
  have r0 : Row (w.alloc (.cells (FrM.mk 1 st of li co fi da ra).cells 37)) w.heap.size 37 (FrM.mk 1 st of li co fi da ra).cells := Row.new _ _ _
  have b0 : Below w.heap.size w (w.alloc (.cells (FrM.mk 1 st of li co fi da ra).cells 37)) := (Below.refl _ w).alloc (Nat.le_refl _) _
  have HR0 := veil r0
  have HB0 := veil b0
  have HF := veil hf
  obtain ⟨a0, a1, a2, a3, a4, a5, a6, a7⟩ := fr_cells r0
  simp only [show ((1 : Nat) : Int) = 1 from rfl] at a0 a1 a2 a3 a4 a5 a6 a7
  clear r0 b0 hf
  go_enter Tryz.func26, Tryz.ntmps26
  go_wp2_with fail
  clear a0 a1 a2 a3 a4 a5 a6 a7
  refine (ref_numbers (FrM.mk 1 st of li co fi da ra) _ (HF.out.below HB0.out) hdl).mono ?_
  rintro e1 w1 ⟨b1, rfl, h1, hb1⟩
  have HB1 := veil (HB0.out.trans (hb1.mono HB0.out.size))
  have r1 := HR0.out.below hb1 HR0.out.lt
  have HR1 := veil r1
  obtain ⟨c0, c1, c2, c3, c4, c5, c6, c7⟩ := fr_cells r1
  simp only [show ((1 : Nat) : Int) = 1 from rfl] at c0 c1 c2 c3 c4 c5 c6 c7
  have HN := veil h1
  clear hb1 r1 h1 HR0
  cases b1 with
  | false =>
    clear c0 c1 c2 c3 c4 c5 c6 c7 HR1
    go_wp2_with fail
    go_ret
    exact ⟨.inr ⟨rfl, fun h => Bool.noConfusion (HN.out.2 h.1)⟩, HB1.out⟩
  | true =>
    go_wp2_with fail
    clear c0 c1 c2 c3 c4 c5 c6 c7
    refine (ref_bare_0010000 (FrM.mk 1 st of li co fi da ra) _ (HF.out.below HB1.out)).mono ?_
    rintro e2 w2 ⟨b2, rfl, h2, hb2⟩
    have HB2 := veil (HB1.out.trans (hb2.mono HB1.out.size))
    have r2 := HR1.out.below hb2 HR1.out.lt
    have HBA := veil h2
    clear HB0 HB1 HR1 hb2 h2
    have d3 := (fr_cells r2).2.2.2.1
    have d7 := (fr_cells r2).2.2.2.2.2.2.2
    simp only at d3 d7
    clear r2
    cases b2 with
    | false =>
      clear d3 d7
      go_wp2_with fail
      go_ret
      exact ⟨.inr ⟨rfl, fun h => Bool.noConfusion (HBA.out.2 h.2.1)⟩, HB2.out⟩
    | true =>
      by_cases q1 : 1 ≤ li
      · have f1 : decide ((li : Int) ≥ 1) = true := by simp; omega
        have f1' : decide ((1 : Int) ≤ (li : Int)) = true := by simp; omega
        by_cases q2 : li ≤ 65536
        · have f2 : decide ((li : Int) ≤ 65536) = true := by simp; omega
          go_wp2_with fail
          go_ret
          exact ⟨.inl ⟨rfl, HN.out.1 trivial, HBA.out.1 trivial, q1, q2⟩, HB2.out⟩
        · have f2 : decide ((li : Int) ≤ 65536) = false := by simp; omega
          have Q2 := veil q2
          clear q2
          go_wp2_with fail
          go_ret
          exact ⟨.inr ⟨rfl, fun h => Q2.out h.2.2.2⟩, HB2.out⟩
      · have f1 : decide ((1 : Int) ≤ (li : Int)) = false := by simp; omega
        have Q1 := veil q1
        clear q1
        go_wp2_with fail
        go_ret
        exact ⟨.inr ⟨rfl, fun h => Q1.out h.2.2.1⟩, HB2.out⟩

set_option maxRecDepth 20000 in
set_option maxHeartbeats 4000000 in
theorem ref_may_2 (f : FrM) (w : World) (hk : f.kind = 2) (hf : f.Ok w) (hdl : f.data.len ≤ 4194304) :
    Calls Tryz.prog 26 #[.agg f.cells] w fun e w' => (e = .returned (.bool true) ∧ Fr.mayF f.fr ∨ e = .returned (.bool false) ∧ ¬ Fr.mayF f.fr) ∧ Below w.heap.size w w' := by
  obtain ⟨k, st, of, li, co, fi, da, ra⟩ := f
  simp only at hk hdl
  subst hk
  have r0 : Row (w.alloc (.cells (FrM.mk 2 st of li co fi da ra).cells 37)) w.heap.size 37 (FrM.mk 2 st of li co fi da ra).cells := Row.new _ _ _
  have b0 : Below w.heap.size w (w.alloc (.cells (FrM.mk 2 st of li co fi da ra).cells 37)) := (Below.refl _ w).alloc (Nat.le_refl _) _
  have HR0 := veil r0
  have HB0 := veil b0
  have HF := veil hf
  obtain ⟨a0, a1, a2, a3, a4, a5, a6, a7⟩ := fr_cells r0
  simp only [show ((2 : Nat) : Int) = 2 from rfl] at a0 a1 a2 a3 a4 a5 a6 a7
  clear r0 b0 hf
  go_enter Tryz.func26, Tryz.ntmps26
  go_wp2_with fail
  clear a0 a1 a2 a3 a4 a5 a6 a7
  refine (ref_numbers (FrM.mk 2 st of li co fi da ra) _ (HF.out.below HB0.out) hdl).mono ?_
  rintro e1 w1 ⟨b1, rfl, h1, hb1⟩
  have HB1 := veil (HB0.out.trans (hb1.mono HB0.out.size))
  have r1 := HR0.out.below hb1 HR0.out.lt
  have HR1 := veil r1
  obtain ⟨c0, c1, c2, c3, c4, c5, c6, c7⟩ := fr_cells r1
  simp only [show ((2 : Nat) : Int) = 2 from rfl] at c0 c1 c2 c3 c4 c5 c6 c7
  have HN := veil h1
  clear hb1 r1 h1 HR0
  cases b1 with
  | false =>
    clear c0 c1 c2 c3 c4 c5 c6 c7 HR1
    go_wp2_with fail
    go_ret
    exact ⟨.inr ⟨rfl, fun h => Bool.noConfusion (HN.out.2 h.1)⟩, HB1.out⟩
  | true =>
    go_wp2_with fail
    clear c0 c1 c2 c3 c4 c5 c6 c7
    refine (ref_bare_0000000 (FrM.mk 2 st of li co fi da ra) _ (HF.out.below HB1.out)).mono ?_
    rintro e2 w2 ⟨b2, rfl, h2, hb2⟩
    have HB2 := veil (HB1.out.trans (hb2.mono HB1.out.size))
    have r2 := HR1.out.below hb2 HR1.out.lt
    have HBA := veil h2
    clear HB0 HB1 HR1 hb2 h2
    clear r2
    cases b2 with
    | false =>
      go_wp2_with fail
      go_ret
      exact ⟨.inr ⟨rfl, fun h => Bool.noConfusion (HBA.out.2 h.2)⟩, HB2.out⟩
    | true =>
      go_wp2_with fail
      go_ret
      exact ⟨.inl ⟨rfl, HN.out.1 trivial, HBA.out.1 trivial⟩, HB2.out⟩

set_option maxRecDepth 20000 in
set_option maxHeartbeats 4000000 in
theorem ref_may_3 (f : FrM) (w : World) (hk : f.kind = 3) (hf : f.Ok w) (hdl : f.data.len ≤ 4194304) :
    Calls Tryz.prog 26 #[.agg f.cells] w fun e w' => (e = .returned (.bool true) ∧ Fr.mayF f.fr ∨ e = .returned (.bool false) ∧ ¬ Fr.mayF f.fr) ∧ Below w.heap.size w w' := by
  obtain ⟨k, st, of, li, co, fi, da, ra⟩ := f
  simp only at hk hdl
  subst hk
  have r0 : Row (w.alloc (.cells (FrM.mk 3 st of li co fi da ra).cells 37)) w.heap.size 37 (FrM.mk 3 st of li co fi da ra).cells := Row.new _ _ _
  have b0 : Below w.heap.size w (w.alloc (.cells (FrM.mk 3 st of li co fi da ra).cells 37)) := (Below.refl _ w).alloc (Nat.le_refl _) _
  have HR0 := veil r0
  have HB0 := veil b0
  have HF := veil hf
  obtain ⟨a0, a1, a2, a3, a4, a5, a6, a7⟩ := fr_cells r0
  simp only [show ((3 : Nat) : Int) = 3 from rfl] at a0 a1 a2 a3 a4 a5 a6 a7
  clear r0 b0 hf
  go_enter Tryz.func26, Tryz.ntmps26
  go_wp2_with fail
  clear a0 a1 a2 a3 a4 a5 a6 a7
  refine (ref_numbers (FrM.mk 3 st of li co fi da ra) _ (HF.out.below HB0.out) hdl).mono ?_
  rintro e1 w1 ⟨b1, rfl, h1, hb1⟩
  have HB1 := veil (HB0.out.trans (hb1.mono HB0.out.size))
  have r1 := HR0.out.below hb1 HR0.out.lt
  have HR1 := veil r1
  obtain ⟨c0, c1, c2, c3, c4, c5, c6, c7⟩ := fr_cells r1
  simp only [show ((3 : Nat) : Int) = 3 from rfl] at c0 c1 c2 c3 c4 c5 c6 c7
  have HN := veil h1
  clear hb1 r1 h1 HR0
  cases b1 with
  | false =>
    clear c0 c1 c2 c3 c4 c5 c6 c7 HR1
    go_wp2_with fail
    go_ret
    exact ⟨.inr ⟨rfl, fun h => Bool.noConfusion (HN.out.2 h.1)⟩, HB1.out⟩
  | true =>
    go_wp2_with fail
    clear c0 c1 c2 c3 c4 c5 c6 c7
    refine (ref_bare_0010001 (FrM.mk 3 st of li co fi da ra) _ (HF.out.below HB1.out)).mono ?_
    rintro e2 w2 ⟨b2, rfl, h2, hb2⟩
    have HB2 := veil (HB1.out.trans (hb2.mono HB1.out.size))
    have r2 := HR1.out.below hb2 HR1.out.lt
    have HBA := veil h2
    clear HB0 HB1 HR1 hb2 h2
    have d3 := (fr_cells r2).2.2.2.1
    have d7 := (fr_cells r2).2.2.2.2.2.2.2
    simp only at d3 d7
    clear r2
    cases b2 with
    | false =>
      clear d3 d7
      go_wp2_with fail
      go_ret
      exact ⟨.inr ⟨rfl, fun h => Bool.noConfusion (HBA.out.2 h.2.1)⟩, HB2.out⟩
    | true =>
      have hre : ra.l = [] ↔ ra.len = 0 := by rw [← (show ra.l.length = ra.len from HF.out.ranges.hb), List.length_eq_zero_iff]
      by_cases q1 : ra.len = 0
      · have f1 : decide ((0 : Int) < (ra.len : Int)) = false := by simp; omega
        have f1n : decide (0 < ra.len) = false := by simp; omega
        have HQ := veil (show ¬ Fr.mayF (FrM.mk 3 st of li co fi da ra).fr from fun h => h.2.2.1 (hre.2 q1))
        clear q1 hre
        go_wp2_with fail
        go_ret
        exact ⟨.inr ⟨rfl, HQ.out⟩, HB2.out⟩
      · have f1 : decide ((0 : Int) < (ra.len : Int)) = true := by simp; omega
        have f1n : decide (0 < ra.len) = true := by simp; omega
        have HQ := veil (show ra.l ≠ [] from fun h => q1 (hre.1 h))
        clear q1 hre
        go_wp2_with fail
        refine (ref_set ra w2 (HF.out.ranges.below HB2.out)).mono ?_
        rintro e3 w3 ⟨h3, hb3⟩
        have HB3 := veil (HB2.out.trans (hb3.mono HB2.out.size))
        clear hb3 HB2 d3 d7
        rcases h3 with ⟨rfl, h3⟩ | ⟨rfl, h3⟩
        · have H3 := veil h3
          clear h3
          go_wp2_with fail
          go_ret
          exact ⟨.inl ⟨rfl, HN.out.1 trivial, HBA.out.1 trivial, HQ.out, H3.out.1, H3.out.2⟩, HB3.out⟩
        · have H3 := veil h3
          clear h3
          go_wp2_with fail
          go_ret
          exact ⟨.inr ⟨rfl, fun h => H3.out h.2.2.2⟩, HB3.out⟩

set_option maxRecDepth 20000 in
set_option maxHeartbeats 4000000 in
theorem ref_may_4 (f : FrM) (w : World) (hk : f.kind = 4) (hf : f.Ok w) (hdl : f.data.len ≤ 4194304) :
    Calls Tryz.prog 26 #[.agg f.cells] w fun e w' => (e = .returned (.bool true) ∧ Fr.mayF f.fr ∨ e = .returned (.bool false) ∧ ¬ Fr.mayF f.fr) ∧ Below w.heap.size w w' := by
  obtain ⟨k, st, of, li, co, fi, da, ra⟩ := f
  simp only at hk hdl
  subst hk
  have r0 : Row (w.alloc (.cells (FrM.mk 4 st of li co fi da ra).cells 37)) w.heap.size 37 (FrM.mk 4 st of li co fi da ra).cells := Row.new _ _ _
  have b0 : Below w.heap.size w (w.alloc (.cells (FrM.mk 4 st of li co fi da ra).cells 37)) := (Below.refl _ w).alloc (Nat.le_refl _) _
  have HR0 := veil r0
  have HB0 := veil b0
  have HF := veil hf
  obtain ⟨a0, a1, a2, a3, a4, a5, a6, a7⟩ := fr_cells r0
  simp only [show ((4 : Nat) : Int) = 4 from rfl] at a0 a1 a2 a3 a4 a5 a6 a7
  clear r0 b0 hf
  go_enter Tryz.func26, Tryz.ntmps26
  go_wp2_with fail
  clear a0 a1 a2 a3 a4 a5 a6 a7
  refine (ref_numbers (FrM.mk 4 st of li co fi da ra) _ (HF.out.below HB0.out) hdl).mono ?_
  rintro e1 w1 ⟨b1, rfl, h1, hb1⟩
  have HB1 := veil (HB0.out.trans (hb1.mono HB0.out.size))
  have r1 := HR0.out.below hb1 HR0.out.lt
  have HR1 := veil r1
  obtain ⟨c0, c1, c2, c3, c4, c5, c6, c7⟩ := fr_cells r1
  simp only [show ((4 : Nat) : Int) = 4 from rfl] at c0 c1 c2 c3 c4 c5 c6 c7
  have HN := veil h1
  clear hb1 r1 h1 HR0
  cases b1 with
  | false =>
    clear c0 c1 c2 c3 c4 c5 c6 c7 HR1
    go_wp2_with fail
    go_ret
    exact ⟨.inr ⟨rfl, fun h => Bool.noConfusion (HN.out.2 h.1)⟩, HB1.out⟩
  | true =>
    go_wp2_with fail
    clear c0 c1 c2 c3 c4 c5 c6 c7
    refine (ref_bare_1011000 (FrM.mk 4 st of li co fi da ra) _ (HF.out.below HB1.out)).mono ?_
    rintro e2 w2 ⟨b2, rfl, h2, hb2⟩
    have HB2 := veil (HB1.out.trans (hb2.mono HB1.out.size))
    have r2 := HR1.out.below hb2 HR1.out.lt
    have HBA := veil h2
    clear HB0 HB1 HR1 hb2 h2
    clear r2
    cases b2 with
    | false =>
      go_wp2_with fail
      go_ret
      exact ⟨.inr ⟨rfl, fun h => Bool.noConfusion (HBA.out.2 h.2)⟩, HB2.out⟩
    | true =>
      go_wp2_with fail
      go_ret
      exact ⟨.inl ⟨rfl, HN.out.1 trivial, HBA.out.1 trivial⟩, HB2.out⟩

set_option maxRecDepth 20000 in
set_option maxHeartbeats 4000000 in
theorem ref_may_5 (f : FrM) (w : World) (hk : f.kind = 5) (hf : f.Ok w) (hdl : f.data.len ≤ 4194304) :
    Calls Tryz.prog 26 #[.agg f.cells] w fun e w' => (e = .returned (.bool true) ∧ Fr.mayF f.fr ∨ e = .returned (.bool false) ∧ ¬ Fr.mayF f.fr) ∧ Below w.heap.size w w' := by
  obtain ⟨k, st, of, li, co, fi, da, ra⟩ := f
  simp only at hk hdl
  subst hk
  have r0 : Row (w.alloc (.cells (FrM.mk 5 st of li co fi da ra).cells 37)) w.heap.size 37 (FrM.mk 5 st of li co fi da ra).cells := Row.new _ _ _
  have b0 : Below w.heap.size w (w.alloc (.cells (FrM.mk 5 st of li co fi da ra).cells 37)) := (Below.refl _ w).alloc (Nat.le_refl _) _
  have HR0 := veil r0
  have HB0 := veil b0
  have HF := veil hf
  obtain ⟨a0, a1, a2, a3, a4, a5, a6, a7⟩ := fr_cells r0
  simp only [show ((5 : Nat) : Int) = 5 from rfl] at a0 a1 a2 a3 a4 a5 a6 a7
  clear r0 b0 hf
  go_enter Tryz.func26, Tryz.ntmps26
  go_wp2_with fail
  clear a0 a1 a2 a3 a4 a5 a6 a7
  refine (ref_numbers (FrM.mk 5 st of li co fi da ra) _ (HF.out.below HB0.out) hdl).mono ?_
  rintro e1 w1 ⟨b1, rfl, h1, hb1⟩
  have HB1 := veil (HB0.out.trans (hb1.mono HB0.out.size))
  have r1 := HR0.out.below hb1 HR0.out.lt
  have HR1 := veil r1
  obtain ⟨c0, c1, c2, c3, c4, c5, c6, c7⟩ := fr_cells r1
  simp only [show ((5 : Nat) : Int) = 5 from rfl] at c0 c1 c2 c3 c4 c5 c6 c7
  have HN := veil h1
  clear hb1 r1 h1 HR0
  cases b1 with
  | false =>
    clear c0 c1 c2 c3 c4 c5 c6 c7 HR1
    go_wp2_with fail
    go_ret
    exact ⟨.inr ⟨rfl, fun h => Bool.noConfusion (HN.out.2 h.1)⟩, HB1.out⟩
  | true =>
    go_wp2_with fail
    clear c0 c1 c2 c3 c4 c5 c6 c7
    refine (ref_bare_1001000 (FrM.mk 5 st of li co fi da ra) _ (HF.out.below HB1.out)).mono ?_
    rintro e2 w2 ⟨b2, rfl, h2, hb2⟩
    have HB2 := veil (HB1.out.trans (hb2.mono HB1.out.size))
    have r2 := HR1.out.below hb2 HR1.out.lt
    have HBA := veil h2
    clear HB0 HB1 HR1 hb2 h2
    clear r2
    cases b2 with
    | false =>
      go_wp2_with fail
      go_ret
      exact ⟨.inr ⟨rfl, fun h => Bool.noConfusion (HBA.out.2 h.2)⟩, HB2.out⟩
    | true =>
      go_wp2_with fail
      go_ret
      exact ⟨.inl ⟨rfl, HN.out.1 trivial, HBA.out.1 trivial⟩, HB2.out⟩

set_option maxRecDepth 20000 in
set_option maxHeartbeats 4000000 in
theorem ref_may_6 (f : FrM) (w : World) (hk : f.kind = 6) (hf : f.Ok w) (hdl : f.data.len ≤ 4194304) :
    Calls Tryz.prog 26 #[.agg f.cells] w fun e w' => (e = .returned (.bool true) ∧ Fr.mayF f.fr ∨ e = .returned (.bool false) ∧ ¬ Fr.mayF f.fr) ∧ Below w.heap.size w w' := by
  obtain ⟨k, st, of, li, co, fi, da, ra⟩ := f
  simp only at hk hdl
  subst hk
  have r0 : Row (w.alloc (.cells (FrM.mk 6 st of li co fi da ra).cells 37)) w.heap.size 37 (FrM.mk 6 st of li co fi da ra).cells := Row.new _ _ _
  have b0 : Below w.heap.size w (w.alloc (.cells (FrM.mk 6 st of li co fi da ra).cells 37)) := (Below.refl _ w).alloc (Nat.le_refl _) _
  have HR0 := veil r0
  have HB0 := veil b0
  have HF := veil hf
  obtain ⟨a0, a1, a2, a3, a4, a5, a6, a7⟩ := fr_cells r0
  simp only [show ((6 : Nat) : Int) = 6 from rfl] at a0 a1 a2 a3 a4 a5 a6 a7
  clear r0 b0 hf
  go_enter Tryz.func26, Tryz.ntmps26
  go_wp2_with fail
  clear a0 a1 a2 a3 a4 a5 a6 a7
  refine (ref_numbers (FrM.mk 6 st of li co fi da ra) _ (HF.out.below HB0.out) hdl).mono ?_
  rintro e1 w1 ⟨b1, rfl, h1, hb1⟩
  have HB1 := veil (HB0.out.trans (hb1.mono HB0.out.size))
  have r1 := HR0.out.below hb1 HR0.out.lt
  have HR1 := veil r1
  obtain ⟨c0, c1, c2, c3, c4, c5, c6, c7⟩ := fr_cells r1
  simp only [show ((6 : Nat) : Int) = 6 from rfl] at c0 c1 c2 c3 c4 c5 c6 c7
  have HN := veil h1
  clear hb1 r1 h1 HR0
  cases b1 with
  | false =>
    clear c0 c1 c2 c3 c4 c5 c6 c7 HR1
    go_wp2_with fail
    go_ret
    exact ⟨.inr ⟨rfl, fun h => Bool.noConfusion (HN.out.2 h.1)⟩, HB1.out⟩
  | true =>
    go_wp2_with fail
    clear c0 c1 c2 c3 c4 c5 c6 c7
    refine (ref_bare_0100010 (FrM.mk 6 st of li co fi da ra) _ (HF.out.below HB1.out)).mono ?_
    rintro e2 w2 ⟨b2, rfl, h2, hb2⟩
    have HB2 := veil (HB1.out.trans (hb2.mono HB1.out.size))
    have r2 := HR1.out.below hb2 HR1.out.lt
    have HBA := veil h2
    clear HB0 HB1 HR1 hb2 h2
    clear r2
    cases b2 with
    | false =>
      go_wp2_with fail
      go_ret
      exact ⟨.inr ⟨rfl, fun h => Bool.noConfusion (HBA.out.2 h.2)⟩, HB2.out⟩
    | true =>
      go_wp2_with fail
      go_ret
      exact ⟨.inl ⟨rfl, HN.out.1 trivial, HBA.out.1 trivial⟩, HB2.out⟩

set_option maxRecDepth 20000 in
set_option maxHeartbeats 4000000 in
theorem ref_may_7 (f : FrM) (w : World) (hk : f.kind = 7) (hf : f.Ok w) (hdl : f.data.len ≤ 4194304) :
    Calls Tryz.prog 26 #[.agg f.cells] w fun e w' => (e = .returned (.bool true) ∧ Fr.mayF f.fr ∨ e = .returned (.bool false) ∧ ¬ Fr.mayF f.fr) ∧ Below w.heap.size w w' := by
  obtain ⟨k, st, of, li, co, fi, da, ra⟩ := f
  simp only at hk hdl
  subst hk
  have r0 : Row (w.alloc (.cells (FrM.mk 7 st of li co fi da ra).cells 37)) w.heap.size 37 (FrM.mk 7 st of li co fi da ra).cells := Row.new _ _ _
  have b0 : Below w.heap.size w (w.alloc (.cells (FrM.mk 7 st of li co fi da ra).cells 37)) := (Below.refl _ w).alloc (Nat.le_refl _) _
  have HR0 := veil r0
  have HB0 := veil b0
  have HF := veil hf
  obtain ⟨a0, a1, a2, a3, a4, a5, a6, a7⟩ := fr_cells r0
  simp only [show ((7 : Nat) : Int) = 7 from rfl] at a0 a1 a2 a3 a4 a5 a6 a7
  clear r0 b0 hf
  go_enter Tryz.func26, Tryz.ntmps26
  go_wp2_with fail
  clear a0 a1 a2 a3 a4 a5 a6 a7
  refine (ref_numbers (FrM.mk 7 st of li co fi da ra) _ (HF.out.below HB0.out) hdl).mono ?_
  rintro e1 w1 ⟨b1, rfl, h1, hb1⟩
  have HB1 := veil (HB0.out.trans (hb1.mono HB0.out.size))
  have r1 := HR0.out.below hb1 HR0.out.lt
  have HR1 := veil r1
  obtain ⟨c0, c1, c2, c3, c4, c5, c6, c7⟩ := fr_cells r1
  simp only [show ((7 : Nat) : Int) = 7 from rfl] at c0 c1 c2 c3 c4 c5 c6 c7
  have HN := veil h1
  clear hb1 r1 h1 HR0
  cases b1 with
  | false =>
    clear c0 c1 c2 c3 c4 c5 c6 c7 HR1
    go_wp2_with fail
    go_ret
    exact ⟨.inr ⟨rfl, fun h => Bool.noConfusion (HN.out.2 h.1)⟩, HB1.out⟩
  | true =>
    go_wp2_with fail
    clear c0 c1 c2 c3 c4 c5 c6 c7
    refine (ref_bare_1100110 (FrM.mk 7 st of li co fi da ra) _ (HF.out.below HB1.out)).mono ?_
    rintro e2 w2 ⟨b2, rfl, h2, hb2⟩
    have HB2 := veil (HB1.out.trans (hb2.mono HB1.out.size))
    have r2 := HR1.out.below hb2 HR1.out.lt
    have HBA := veil h2
    clear HB0 HB1 HR1 hb2 h2
    clear r2
    cases b2 with
    | false =>
      go_wp2_with fail
      go_ret
      exact ⟨.inr ⟨rfl, fun h => Bool.noConfusion (HBA.out.2 h.2)⟩, HB2.out⟩
    | true =>
      go_wp2_with fail
      go_ret
      exact ⟨.inl ⟨rfl, HN.out.1 trivial, HBA.out.1 trivial⟩, HB2.out⟩

set_option maxRecDepth 20000 in
set_option maxHeartbeats 4000000 in
theorem ref_may_8 (f : FrM) (w : World) (hk : f.kind = 8) (hf : f.Ok w) (hdl : f.data.len ≤ 4194304) :
    Calls Tryz.prog 26 #[.agg f.cells] w fun e w' => (e = .returned (.bool true) ∧ Fr.mayF f.fr ∨ e = .returned (.bool false) ∧ ¬ Fr.mayF f.fr) ∧ Below w.heap.size w w' := by
  obtain ⟨k, st, of, li, co, fi, da, ra⟩ := f
  simp only at hk hdl
  subst hk
  have r0 : Row (w.alloc (.cells (FrM.mk 8 st of li co fi da ra).cells 37)) w.heap.size 37 (FrM.mk 8 st of li co fi da ra).cells := Row.new _ _ _
  have b0 : Below w.heap.size w (w.alloc (.cells (FrM.mk 8 st of li co fi da ra).cells 37)) := (Below.refl _ w).alloc (Nat.le_refl _) _
  have HR0 := veil r0
  have HB0 := veil b0
  have HF := veil hf
  obtain ⟨a0, a1, a2, a3, a4, a5, a6, a7⟩ := fr_cells r0
  simp only [show ((8 : Nat) : Int) = 8 from rfl] at a0 a1 a2 a3 a4 a5 a6 a7
  clear r0 b0 hf
  go_enter Tryz.func26, Tryz.ntmps26
  go_wp2_with fail
  clear a0 a1 a2 a3 a4 a5 a6 a7
  refine (ref_numbers (FrM.mk 8 st of li co fi da ra) _ (HF.out.below HB0.out) hdl).mono ?_
  rintro e1 w1 ⟨b1, rfl, h1, hb1⟩
  have HB1 := veil (HB0.out.trans (hb1.mono HB0.out.size))
  have r1 := HR0.out.below hb1 HR0.out.lt
  have HR1 := veil r1
  obtain ⟨c0, c1, c2, c3, c4, c5, c6, c7⟩ := fr_cells r1
  simp only [show ((8 : Nat) : Int) = 8 from rfl] at c0 c1 c2 c3 c4 c5 c6 c7
  have HN := veil h1
  clear hb1 r1 h1 HR0
  cases b1 with
  | false =>
    clear c0 c1 c2 c3 c4 c5 c6 c7 HR1
    go_wp2_with fail
    go_ret
    exact ⟨.inr ⟨rfl, fun h => Bool.noConfusion (HN.out.2 h.1)⟩, HB1.out⟩
  | true =>
    go_wp2_with fail
    clear c0 c1 c2 c3 c4 c5 c6 c7
    refine (ref_bare_0010000 (FrM.mk 8 st of li co fi da ra) _ (HF.out.below HB1.out)).mono ?_
    rintro e2 w2 ⟨b2, rfl, h2, hb2⟩
    have HB2 := veil (HB1.out.trans (hb2.mono HB1.out.size))
    have r2 := HR1.out.below hb2 HR1.out.lt
    have HBA := veil h2
    clear HB0 HB1 HR1 hb2 h2
    clear r2
    cases b2 with
    | false =>
      go_wp2_with fail
      go_ret
      exact ⟨.inr ⟨rfl, fun h => Bool.noConfusion (HBA.out.2 h.2)⟩, HB2.out⟩
    | true =>
      go_wp2_with fail
      go_ret
      exact ⟨.inl ⟨rfl, HN.out.1 trivial, HBA.out.1 trivial⟩, HB2.out⟩

set_option maxRecDepth 20000 in
set_option maxHeartbeats 4000000 in
theorem ref_may_9 (f : FrM) (w : World) (hk : f.kind = 9) (hf : f.Ok w) (hdl : f.data.len ≤ 4194304) :
    Calls Tryz.prog 26 #[.agg f.cells] w fun e w' => (e = .returned (.bool true) ∧ Fr.mayF f.fr ∨ e = .returned (.bool false) ∧ ¬ Fr.mayF f.fr) ∧ Below w.heap.size w w' := by
  obtain ⟨k, st, of, li, co, fi, da, ra⟩ := f
  simp only at hk hdl
  subst hk
  have r0 : Row (w.alloc (.cells (FrM.mk 9 st of li co fi da ra).cells 37)) w.heap.size 37 (FrM.mk 9 st of li co fi da ra).cells := Row.new _ _ _
  have b0 : Below w.heap.size w (w.alloc (.cells (FrM.mk 9 st of li co fi da ra).cells 37)) := (Below.refl _ w).alloc (Nat.le_refl _) _
  have HR0 := veil r0
  have HB0 := veil b0
  have HF := veil hf
  obtain ⟨a0, a1, a2, a3, a4, a5, a6, a7⟩ := fr_cells r0
  simp only [show ((9 : Nat) : Int) = 9 from rfl] at a0 a1 a2 a3 a4 a5 a6 a7
  clear r0 b0 hf
  go_enter Tryz.func26, Tryz.ntmps26
  go_wp2_with fail
  clear a0 a1 a2 a3 a4 a5 a6 a7
  refine (ref_numbers (FrM.mk 9 st of li co fi da ra) _ (HF.out.below HB0.out) hdl).mono ?_
  rintro e1 w1 ⟨b1, rfl, h1, hb1⟩
  have HB1 := veil (HB0.out.trans (hb1.mono HB0.out.size))
  have r1 := HR0.out.below hb1 HR0.out.lt
  have HR1 := veil r1
  obtain ⟨c0, c1, c2, c3, c4, c5, c6, c7⟩ := fr_cells r1
  simp only [show ((9 : Nat) : Int) = 9 from rfl] at c0 c1 c2 c3 c4 c5 c6 c7
  have HN := veil h1
  clear hb1 r1 h1 HR0
  cases b1 with
  | false =>
    clear c0 c1 c2 c3 c4 c5 c6 c7 HR1
    go_wp2_with fail
    go_ret
    exact ⟨.inr ⟨rfl, fun h => Bool.noConfusion (HN.out.2 h.1)⟩, HB1.out⟩
  | true =>
    go_wp2_with fail
    clear c0 c1 c2 c3 c4 c5 c6 c7
    refine (ref_bare_1010000 (FrM.mk 9 st of li co fi da ra) _ (HF.out.below HB1.out)).mono ?_
    rintro e2 w2 ⟨b2, rfl, h2, hb2⟩
    have HB2 := veil (HB1.out.trans (hb2.mono HB1.out.size))
    have r2 := HR1.out.below hb2 HR1.out.lt
    have HBA := veil h2
    clear HB0 HB1 HR1 hb2 h2
    clear r2
    cases b2 with
    | false =>
      go_wp2_with fail
      go_ret
      exact ⟨.inr ⟨rfl, fun h => Bool.noConfusion (HBA.out.2 h.2)⟩, HB2.out⟩
    | true =>
      go_wp2_with fail
      go_ret
      exact ⟨.inl ⟨rfl, HN.out.1 trivial, HBA.out.1 trivial⟩, HB2.out⟩

set_option maxRecDepth 20000 in
set_option maxHeartbeats 4000000 in
theorem ref_may_10 (f : FrM) (w : World) (hk : f.kind = 10) (hf : f.Ok w) (hdl : f.data.len ≤ 4194304) :
    Calls Tryz.prog 26 #[.agg f.cells] w fun e w' => (e = .returned (.bool true) ∧ Fr.mayF f.fr ∨ e = .returned (.bool false) ∧ ¬ Fr.mayF f.fr) ∧ Below w.heap.size w w' := by
  obtain ⟨k, st, of, li, co, fi, da, ra⟩ := f
  simp only at hk hdl
  subst hk
  have r0 : Row (w.alloc (.cells (FrM.mk 10 st of li co fi da ra).cells 37)) w.heap.size 37 (FrM.mk 10 st of li co fi da ra).cells := Row.new _ _ _
  have b0 : Below w.heap.size w (w.alloc (.cells (FrM.mk 10 st of li co fi da ra).cells 37)) := (Below.refl _ w).alloc (Nat.le_refl _) _
  have HR0 := veil r0
  have HB0 := veil b0
  have HF := veil hf
  obtain ⟨a0, a1, a2, a3, a4, a5, a6, a7⟩ := fr_cells r0
  simp only [show ((10 : Nat) : Int) = 10 from rfl] at a0 a1 a2 a3 a4 a5 a6 a7
  clear r0 b0 hf
  go_enter Tryz.func26, Tryz.ntmps26
  go_wp2_with fail
  clear a0 a1 a2 a3 a4 a5 a6 a7
  refine (ref_numbers (FrM.mk 10 st of li co fi da ra) _ (HF.out.below HB0.out) hdl).mono ?_
  rintro e1 w1 ⟨b1, rfl, h1, hb1⟩
  have HB1 := veil (HB0.out.trans (hb1.mono HB0.out.size))
  have r1 := HR0.out.below hb1 HR0.out.lt
  have HR1 := veil r1
  obtain ⟨c0, c1, c2, c3, c4, c5, c6, c7⟩ := fr_cells r1
  simp only [show ((10 : Nat) : Int) = 10 from rfl] at c0 c1 c2 c3 c4 c5 c6 c7
  have HN := veil h1
  clear hb1 r1 h1 HR0
  cases b1 with
  | false =>
    clear c0 c1 c2 c3 c4 c5 c6 c7 HR1
    go_wp2_with fail
    go_ret
    exact ⟨.inr ⟨rfl, fun h => Bool.noConfusion (HN.out.2 h.1)⟩, HB1.out⟩
  | true =>
    go_wp2_with fail
    clear c0 c1 c2 c3 c4 c5 c6 c7
    refine (ref_bare_0010100 (FrM.mk 10 st of li co fi da ra) _ (HF.out.below HB1.out)).mono ?_
    rintro e2 w2 ⟨b2, rfl, h2, hb2⟩
    have HB2 := veil (HB1.out.trans (hb2.mono HB1.out.size))
    have r2 := HR1.out.below hb2 HR1.out.lt
    have HBA := veil h2
    clear HB0 HB1 HR1 hb2 h2
    have d3 := (fr_cells r2).2.2.2.1
    have d7 := (fr_cells r2).2.2.2.2.2.2.2
    simp only at d3 d7
    clear r2
    cases b2 with
    | false =>
      clear d3 d7
      go_wp2_with fail
      go_ret
      exact ⟨.inr ⟨rfl, fun h => Bool.noConfusion (HBA.out.2 h.2.1)⟩, HB2.out⟩
    | true =>
      by_cases q2 : li ≤ 1152921504606846976
      · have f2 : decide ((li : Int) ≤ 1152921504606846976) = true := by simp; omega
        go_wp2_with fail
        go_ret
        exact ⟨.inl ⟨rfl, HN.out.1 trivial, HBA.out.1 trivial, q2⟩, HB2.out⟩
      · have f2 : decide ((li : Int) ≤ 1152921504606846976) = false := by simp; omega
        have Q2 := veil q2
        clear q2
        go_wp2_with fail
        go_ret
        exact ⟨.inr ⟨rfl, fun h => Q2.out h.2.2⟩, HB2.out⟩

set_option maxRecDepth 20000 in
set_option maxHeartbeats 4000000 in
theorem ref_may_11 (f : FrM) (w : World) (hk : f.kind = 11) (hf : f.Ok w) (hdl : f.data.len ≤ 4194304) :
    Calls Tryz.prog 26 #[.agg f.cells] w fun e w' => (e = .returned (.bool true) ∧ Fr.mayF f.fr ∨ e = .returned (.bool false) ∧ ¬ Fr.mayF f.fr) ∧ Below w.heap.size w w' := by
  obtain ⟨k, st, of, li, co, fi, da, ra⟩ := f
  simp only at hk hdl
  subst hk
  have r0 : Row (w.alloc (.cells (FrM.mk 11 st of li co fi da ra).cells 37)) w.heap.size 37 (FrM.mk 11 st of li co fi da ra).cells := Row.new _ _ _
  have b0 : Below w.heap.size w (w.alloc (.cells (FrM.mk 11 st of li co fi da ra).cells 37)) := (Below.refl _ w).alloc (Nat.le_refl _) _
  have HR0 := veil r0
  have HB0 := veil b0
  have HF := veil hf
  obtain ⟨a0, a1, a2, a3, a4, a5, a6, a7⟩ := fr_cells r0
  simp only [show ((11 : Nat) : Int) = 11 from rfl] at a0 a1 a2 a3 a4 a5 a6 a7
  clear r0 b0 hf
  go_enter Tryz.func26, Tryz.ntmps26
  go_wp2_with fail
  clear a0 a1 a2 a3 a4 a5 a6 a7
  refine (ref_numbers (FrM.mk 11 st of li co fi da ra) _ (HF.out.below HB0.out) hdl).mono ?_
  rintro e1 w1 ⟨b1, rfl, h1, hb1⟩
  have HB1 := veil (HB0.out.trans (hb1.mono HB0.out.size))
  have r1 := HR0.out.below hb1 HR0.out.lt
  have HR1 := veil r1
  obtain ⟨c0, c1, c2, c3, c4, c5, c6, c7⟩ := fr_cells r1
  simp only [show ((11 : Nat) : Int) = 11 from rfl] at c0 c1 c2 c3 c4 c5 c6 c7
  have HN := veil h1
  clear hb1 r1 h1 HR0
  cases b1 with
  | false =>
    clear c0 c1 c2 c3 c4 c5 c6 c7 HR1
    go_wp2_with fail
    go_ret
    exact ⟨.inr ⟨rfl, fun h => Bool.noConfusion (HN.out.2 h.1)⟩, HB1.out⟩
  | true =>
    go_wp2_with fail
    clear c0 c1 c2 c3 c4 c5 c6 c7
    refine (ref_bare_0010000 (FrM.mk 11 st of li co fi da ra) _ (HF.out.below HB1.out)).mono ?_
    rintro e2 w2 ⟨b2, rfl, h2, hb2⟩
    have HB2 := veil (HB1.out.trans (hb2.mono HB1.out.size))
    have r2 := HR1.out.below hb2 HR1.out.lt
    have HBA := veil h2
    clear HB0 HB1 HR1 hb2 h2
    clear r2
    cases b2 with
    | false =>
      go_wp2_with fail
      go_ret
      exact ⟨.inr ⟨rfl, fun h => Bool.noConfusion (HBA.out.2 h.2)⟩, HB2.out⟩
    | true =>
      go_wp2_with fail
      go_ret
      exact ⟨.inl ⟨rfl, HN.out.1 trivial, HBA.out.1 trivial⟩, HB2.out⟩

set_option maxRecDepth 20000 in
set_option maxHeartbeats 4000000 in
theorem ref_may_12 (f : FrM) (w : World) (hk : f.kind = 12) (hf : f.Ok w) (hdl : f.data.len ≤ 4194304) :
    Calls Tryz.prog 26 #[.agg f.cells] w fun e w' => (e = .returned (.bool true) ∧ Fr.mayF f.fr ∨ e = .returned (.bool false) ∧ ¬ Fr.mayF f.fr) ∧ Below w.heap.size w w' := by
  obtain ⟨k, st, of, li, co, fi, da, ra⟩ := f
  simp only at hk hdl
  subst hk
  have r0 : Row (w.alloc (.cells (FrM.mk 12 st of li co fi da ra).cells 37)) w.heap.size 37 (FrM.mk 12 st of li co fi da ra).cells := Row.new _ _ _
  have b0 : Below w.heap.size w (w.alloc (.cells (FrM.mk 12 st of li co fi da ra).cells 37)) := (Below.refl _ w).alloc (Nat.le_refl _) _
  have HR0 := veil r0
  have HB0 := veil b0
  have HF := veil hf
  obtain ⟨a0, a1, a2, a3, a4, a5, a6, a7⟩ := fr_cells r0
  simp only [show ((12 : Nat) : Int) = 12 from rfl] at a0 a1 a2 a3 a4 a5 a6 a7
  clear r0 b0 hf
  go_enter Tryz.func26, Tryz.ntmps26
  go_wp2_with fail
  clear a0 a1 a2 a3 a4 a5 a6 a7
  refine (ref_numbers (FrM.mk 12 st of li co fi da ra) _ (HF.out.below HB0.out) hdl).mono ?_
  rintro e1 w1 ⟨b1, rfl, h1, hb1⟩
  have HB1 := veil (HB0.out.trans (hb1.mono HB0.out.size))
  have r1 := HR0.out.below hb1 HR0.out.lt
  have HR1 := veil r1
  obtain ⟨c0, c1, c2, c3, c4, c5, c6, c7⟩ := fr_cells r1
  simp only [show ((12 : Nat) : Int) = 12 from rfl] at c0 c1 c2 c3 c4 c5 c6 c7
  have HN := veil h1
  clear hb1 r1 h1 HR0
  cases b1 with
  | false =>
    clear c0 c1 c2 c3 c4 c5 c6 c7 HR1
    go_wp2_with fail
    go_ret
    exact ⟨.inr ⟨rfl, fun h => Bool.noConfusion (HN.out.2 h.1)⟩, HB1.out⟩
  | true =>
    go_wp2_with fail
    clear c0 c1 c2 c3 c4 c5 c6 c7
    refine (ref_bare_1010000 (FrM.mk 12 st of li co fi da ra) _ (HF.out.below HB1.out)).mono ?_
    rintro e2 w2 ⟨b2, rfl, h2, hb2⟩
    have HB2 := veil (HB1.out.trans (hb2.mono HB1.out.size))
    have r2 := HR1.out.below hb2 HR1.out.lt
    have HBA := veil h2
    clear HB0 HB1 HR1 hb2 h2
    clear r2
    cases b2 with
    | false =>
      go_wp2_with fail
      go_ret
      exact ⟨.inr ⟨rfl, fun h => Bool.noConfusion (HBA.out.2 h.2)⟩, HB2.out⟩
    | true =>
      go_wp2_with fail
      go_ret
      exact ⟨.inl ⟨rfl, HN.out.1 trivial, HBA.out.1 trivial⟩, HB2.out⟩

set_option maxRecDepth 20000 in
set_option maxHeartbeats 4000000 in
theorem ref_may_13 (f : FrM) (w : World) (hk : f.kind = 13) (hf : f.Ok w) (hdl : f.data.len ≤ 4194304) :
    Calls Tryz.prog 26 #[.agg f.cells] w fun e w' => (e = .returned (.bool true) ∧ Fr.mayF f.fr ∨ e = .returned (.bool false) ∧ ¬ Fr.mayF f.fr) ∧ Below w.heap.size w w' := by
  obtain ⟨k, st, of, li, co, fi, da, ra⟩ := f
  simp only at hk hdl
  subst hk
  have r0 : Row (w.alloc (.cells (FrM.mk 13 st of li co fi da ra).cells 37)) w.heap.size 37 (FrM.mk 13 st of li co fi da ra).cells := Row.new _ _ _
  have b0 : Below w.heap.size w (w.alloc (.cells (FrM.mk 13 st of li co fi da ra).cells 37)) := (Below.refl _ w).alloc (Nat.le_refl _) _
  have HR0 := veil r0
  have HB0 := veil b0
  have HF := veil hf
  obtain ⟨a0, a1, a2, a3, a4, a5, a6, a7⟩ := fr_cells r0
  simp only [show ((13 : Nat) : Int) = 13 from rfl] at a0 a1 a2 a3 a4 a5 a6 a7
  clear r0 b0 hf
  go_enter Tryz.func26, Tryz.ntmps26
  go_wp2_with fail
  clear a0 a1 a2 a3 a4 a5 a6 a7
  refine (ref_numbers (FrM.mk 13 st of li co fi da ra) _ (HF.out.below HB0.out) hdl).mono ?_
  rintro e1 w1 ⟨b1, rfl, h1, hb1⟩
  have HB1 := veil (HB0.out.trans (hb1.mono HB0.out.size))
  have r1 := HR0.out.below hb1 HR0.out.lt
  have HR1 := veil r1
  obtain ⟨c0, c1, c2, c3, c4, c5, c6, c7⟩ := fr_cells r1
  simp only [show ((13 : Nat) : Int) = 13 from rfl] at c0 c1 c2 c3 c4 c5 c6 c7
  have HN := veil h1
  clear hb1 r1 h1 HR0
  cases b1 with
  | false =>
    clear c0 c1 c2 c3 c4 c5 c6 c7 HR1
    go_wp2_with fail
    go_ret
    exact ⟨.inr ⟨rfl, fun h => Bool.noConfusion (HN.out.2 h.1)⟩, HB1.out⟩
  | true =>
    go_wp2_with fail
    clear c0 c1 c2 c3 c4 c5 c6 c7
    refine (ref_bare_0001110 (FrM.mk 13 st of li co fi da ra) _ (HF.out.below HB1.out)).mono ?_
    rintro e2 w2 ⟨b2, rfl, h2, hb2⟩
    have HB2 := veil (HB1.out.trans (hb2.mono HB1.out.size))
    have r2 := HR1.out.below hb2 HR1.out.lt
    have HBA := veil h2
    clear HB0 HB1 HR1 hb2 h2
    clear r2
    cases b2 with
    | false =>
      go_wp2_with fail
      go_ret
      exact ⟨.inr ⟨rfl, fun h => Bool.noConfusion (HBA.out.2 h.2)⟩, HB2.out⟩
    | true =>
      go_wp2_with fail
      go_ret
      exact ⟨.inl ⟨rfl, HN.out.1 trivial, HBA.out.1 trivial⟩, HB2.out⟩

set_option maxRecDepth 20000 in
set_option maxHeartbeats 4000000 in
theorem ref_may_14 (f : FrM) (w : World) (hk : f.kind = 14) (hf : f.Ok w) (hdl : f.data.len ≤ 4194304) :
    Calls Tryz.prog 26 #[.agg f.cells] w fun e w' => (e = .returned (.bool true) ∧ Fr.mayF f.fr ∨ e = .returned (.bool false) ∧ ¬ Fr.mayF f.fr) ∧ Below w.heap.size w w' := by
  obtain ⟨k, st, of, li, co, fi, da, ra⟩ := f
  simp only at hk hdl
  subst hk
  have r0 : Row (w.alloc (.cells (FrM.mk 14 st of li co fi da ra).cells 37)) w.heap.size 37 (FrM.mk 14 st of li co fi da ra).cells := Row.new _ _ _
  have b0 : Below w.heap.size w (w.alloc (.cells (FrM.mk 14 st of li co fi da ra).cells 37)) := (Below.refl _ w).alloc (Nat.le_refl _) _
  have HR0 := veil r0
  have HB0 := veil b0
  have HF := veil hf
  obtain ⟨a0, a1, a2, a3, a4, a5, a6, a7⟩ := fr_cells r0
  simp only [show ((14 : Nat) : Int) = 14 from rfl] at a0 a1 a2 a3 a4 a5 a6 a7
  clear r0 b0 hf
  go_enter Tryz.func26, Tryz.ntmps26
  go_wp2_with fail
  clear a0 a1 a2 a3 a4 a5 a6 a7
  refine (ref_numbers (FrM.mk 14 st of li co fi da ra) _ (HF.out.below HB0.out) hdl).mono ?_
  rintro e1 w1 ⟨b1, rfl, h1, hb1⟩
  have HB1 := veil (HB0.out.trans (hb1.mono HB0.out.size))
  have r1 := HR0.out.below hb1 HR0.out.lt
  have HR1 := veil r1
  obtain ⟨c0, c1, c2, c3, c4, c5, c6, c7⟩ := fr_cells r1
  simp only [show ((14 : Nat) : Int) = 14 from rfl] at c0 c1 c2 c3 c4 c5 c6 c7
  have HN := veil h1
  clear hb1 r1 h1 HR0
  cases b1 with
  | false =>
    clear c0 c1 c2 c3 c4 c5 c6 c7 HR1
    go_wp2_with fail
    go_ret
    exact ⟨.inr ⟨rfl, fun h => Bool.noConfusion (HN.out.2 h.1)⟩, HB1.out⟩
  | true =>
    go_wp2_with fail
    clear c0 c1 c2 c3 c4 c5 c6 c7
    refine (ref_bare_0000000 (FrM.mk 14 st of li co fi da ra) _ (HF.out.below HB1.out)).mono ?_
    rintro e2 w2 ⟨b2, rfl, h2, hb2⟩
    have HB2 := veil (HB1.out.trans (hb2.mono HB1.out.size))
    have r2 := HR1.out.below hb2 HR1.out.lt
    have HBA := veil h2
    clear HB0 HB1 HR1 hb2 h2
    clear r2
    cases b2 with
    | false =>
      go_wp2_with fail
      go_ret
      exact ⟨.inr ⟨rfl, fun h => Bool.noConfusion (HBA.out.2 h.2)⟩, HB2.out⟩
    | true =>
      go_wp2_with fail
      go_ret
      exact ⟨.inl ⟨rfl, HN.out.1 trivial, HBA.out.1 trivial⟩, HB2.out⟩
set_option maxRecDepth 20000 in
set_option maxHeartbeats 4000000 in
theorem ref_may_no (f : FrM) (w : World) (hk : f.kind = 0 ∨ 14 < f.kind) (hf : f.Ok w) (hdl : f.data.len ≤ 4194304) :
    Calls Tryz.prog 26 #[.agg f.cells] w fun e w' => (e = .returned (.bool true) ∧ Fr.mayF f.fr ∨ e = .returned (.bool false) ∧ ¬ Fr.mayF f.fr) ∧ Below w.heap.size w w' := by
  obtain ⟨k, st, of, li, co, fi, da, ra⟩ := f
  simp only at hk hdl
  have HM := veil (show ¬ Fr.mayF (FrM.mk k st of li co fi da ra).fr from fun h => by
    have h2 : 1 ≤ k ∧ k ≤ 14 := may_kind h
    omega)
  have n1 : ((k : Int) == 1) = false := by simp; omega
  have n2 : ((k : Int) == 2) = false := by simp; omega
  have n3 : ((k : Int) == 3) = false := by simp; omega
  have n4 : ((k : Int) == 4) = false := by simp; omega
  have n5 : ((k : Int) == 5) = false := by simp; omega
  have n6 : ((k : Int) == 6) = false := by simp; omega
  have n7 : ((k : Int) == 7) = false := by simp; omega
  have n8 : ((k : Int) == 8) = false := by simp; omega
  have n9 : ((k : Int) == 9) = false := by simp; omega
  have n10 : ((k : Int) == 10) = false := by simp; omega
  have n11 : ((k : Int) == 11) = false := by simp; omega
  have n12 : ((k : Int) == 12) = false := by simp; omega
  have n13 : ((k : Int) == 13) = false := by simp; omega
  have n14 : ((k : Int) == 14) = false := by simp; omega
  have r0 : Row (w.alloc (.cells (FrM.mk k st of li co fi da ra).cells 37)) w.heap.size 37 (FrM.mk k st of li co fi da ra).cells := Row.new _ _ _
  have b0 : Below w.heap.size w (w.alloc (.cells (FrM.mk k st of li co fi da ra).cells 37)) := (Below.refl _ w).alloc (Nat.le_refl _) _
  have HR0 := veil r0
  have HB0 := veil b0
  have HF := veil hf
  obtain ⟨a0, a1, a2, a3, a4, a5, a6, a7⟩ := fr_cells r0
  simp only at a0 a1 a2 a3 a4 a5 a6 a7
  clear r0 b0 hf hk
  go_enter Tryz.func26, Tryz.ntmps26
  go_wp2_with fail
  clear a0 a1 a2 a3 a4 a5 a6 a7
  refine (ref_numbers (FrM.mk k st of li co fi da ra) _ (HF.out.below HB0.out) hdl).mono ?_
  rintro e1 w1 ⟨b1, rfl, h1, hb1⟩
  clear h1
  have HB1 := veil (HB0.out.trans (hb1.mono HB0.out.size))
  obtain ⟨c0, c1, c2, c3, c4, c5, c6, c7⟩ := fr_cells (HR0.out.below hb1 HR0.out.lt)
  simp only at c0 c1 c2 c3 c4 c5 c6 c7
  clear hb1 HR0
  cases b1 with
  | false =>
    go_wp2_with fail
    go_ret
    exact ⟨.inr ⟨rfl, HM.out⟩, HB1.out⟩
  | true =>
    go_wp2_with fail
    go_ret
    exact ⟨.inr ⟨rfl, HM.out⟩, HB1.out⟩

/-- The document's May, of any frame. -/
theorem ref_may (f : FrM) (w : World) (hf : f.Ok w) (hdl : f.data.len ≤ 4194304) :
    Calls Tryz.prog 26 #[.agg f.cells] w fun e w' => (e = .returned (.bool true) ∧ Fr.mayF f.fr ∨ e = .returned (.bool false) ∧ ¬ Fr.mayF f.fr) ∧ Below w.heap.size w w' := by
  by_cases h1 : f.kind = 1
  · exact ref_may_1 f w h1 hf hdl
  by_cases h2 : f.kind = 2
  · exact ref_may_2 f w h2 hf hdl
  by_cases h3 : f.kind = 3
  · exact ref_may_3 f w h3 hf hdl
  by_cases h4 : f.kind = 4
  · exact ref_may_4 f w h4 hf hdl
  by_cases h5 : f.kind = 5
  · exact ref_may_5 f w h5 hf hdl
  by_cases h6 : f.kind = 6
  · exact ref_may_6 f w h6 hf hdl
  by_cases h7 : f.kind = 7
  · exact ref_may_7 f w h7 hf hdl
  by_cases h8 : f.kind = 8
  · exact ref_may_8 f w h8 hf hdl
  by_cases h9 : f.kind = 9
  · exact ref_may_9 f w h9 hf hdl
  by_cases h10 : f.kind = 10
  · exact ref_may_10 f w h10 hf hdl
  by_cases h11 : f.kind = 11
  · exact ref_may_11 f w h11 hf hdl
  by_cases h12 : f.kind = 12
  · exact ref_may_12 f w h12 hf hdl
  by_cases h13 : f.kind = 13
  · exact ref_may_13 f w h13 hf hdl
  by_cases h14 : f.kind = 14
  · exact ref_may_14 f w h14 hf hdl
  exact ref_may_no f w (by omega) hf hdl
end Go.Proofs.YtaighdppemnglaaGreatDoor

/-! The document's Put. -/
namespace Go.Proofs.YtaighdppemnglaaGreatDoor
open Go Go.RowKit

set_option maxRecDepth 20000 in
set_option maxHeartbeats 8000000 in
/-- The document's Put, of any frames. -/
theorem ref_putAll (s : FS) (w : World) (hs : s.Ok w) (hl : s.len ≤ 8388608) (hd : ∀ j, j < s.len → (gf s.l j).data.len ≤ 4000000) :
    Calls Tryz.prog 9 #[.slice s.a s.len s.cap] w fun e w' => ∃ v, e = .returned (.tuple #[v, .int .i64 (putE s.fr : Int)]) ∧ RowK w.heap.size (putO s.fr) w' v ∧ Below w.heap.size w w' := by
  obtain ⟨a, len, cap, g, off, l⟩ := s
  have hll : l.length = len := hs.hb
  have HP := veil hs
  have HL := veil hll
  have HD := veil hd
  clear hs hll hd
  simp only at hl
  show Calls _ _ _ _ fun e w' => ∃ v, e = .returned (.tuple #[v, .int .i64 (putE (l.map FrM.fr) : Int)]) ∧ RowK w.heap.size (putO (l.map FrM.fr)) w' v ∧ Below w.heap.size w w'
  go_enter Tryz.func9, Tryz.ntmps9
  go_wp2_with fail
  go_loopw [4] (fun i wr => ∃ k : Nat, k ≤ len ∧ i = .int .i64 k ∧ okT l k ∧ Below w.heap.size w wr)
    (fun i _ => len - (intOf i).toNat)
  case atStart => exact ⟨0, Nat.zero_le _, rfl, fun j hj => absurd hj (Nat.not_lt_zero _), Below.refl _ _⟩
  case round =>
    obtain ⟨k, hk, rfl, hto, hbel⟩ := hrel
    by_cases hlt : k < len
    · have e1 : a = some ⟨g, off, none⟩ := HP.out.at_ (show 0 < len by omega)
      subst e1
      have hc := (HP.out.below hbel).cell k hlt
      have HOKk := veil ((HP.out.below hbel).each k hlt)
      have hdk := HD.out k hlt
      obtain ⟨K, ek⟩ : ∃ K, K = gf l k := ⟨_, rfl⟩
      simp only at hc hdk HOKk
      rw [← ek] at hc hdk HOKk
      obtain ⟨kk, st, of, li, co, fi, da, ra⟩ := K
      have a0 := hc 0 _ rfl
      have a1 := hc 1 _ rfl
      have a2 := hc 2 _ rfl
      have a3 := hc 3 _ rfl
      have a4 := hc 4 _ rfl
      have a5 := hc 5 _ rfl
      have a6 := hc 6 _ rfl
      have a7 := hc 7 _ rfl
      simp only [Nat.add_zero] at a0 a1 a2 a3 a4 a5 a6 a7
      have HC := veil hc
      have HTO := veil hto
      have HB := veil hbel
      have EK := veil ek
      clear hc hto hbel ek
      go_wp2_with fail
      clear a0 a1 a2 a3 a4 a5 a6 a7
      refine (ref_may ⟨kk, st, of, li, co, fi, da, ra⟩ wr HOKk.out (Nat.le_trans hdk (by decide))).mono ?_
      rintro e1 w1 ⟨h1, hb1⟩
      have HB1 := veil (HB.out.trans (hb1.mono HB.out.size))
      have hc1 := (HP.out.below HB1.out).cell k hlt
      simp only at hc1
      rw [← EK.out] at hc1
      have b0 := hc1 0 _ rfl
      simp only [Nat.add_zero] at b0
      clear hb1 hc1 HB HC HOKk
      rcases h1 with ⟨rfl, hm⟩ | ⟨rfl, hm⟩
      · by_cases hk0 : k = 0
        · have f3 : decide ((0 : Int) < (k : Int)) = false := by simp; omega
          have f3n : decide (0 < k) = false := by simp; omega
          have HS := veil (okT_succ HTO.out (by rw [← EK.out]; exact hm) (fun h => by omega))
          clear hm hk0 HTO EK
          go_wp2_with fail
          go_roundw
          case rel => exact ⟨k + 1, by omega, by go_num, HS.out, HB1.out⟩
          case measure => simp [intOf]; omega
        · have f3 : decide ((0 : Int) < (k : Int)) = true := by simp; omega
          have f3n : decide (0 < k) = true := by simp; omega
          have hk1 : (k : Int) - 1 = ((k - 1 : Nat) : Int) := by omega
          have hk2 : k - 1 < len := by omega
          have hcp := (HP.out.below HB1.out).cell (k - 1) hk2
          simp only at hcp
          have p0 := hcp 0 _ rfl
          simp only [Nat.add_zero] at p0
          clear hcp
          by_cases q1 : kk = 1
          · have f4 : ((kk : Int) == 1) = true := by simp; omega
            by_cases q2 : (gf l (k - 1)).kind = 1
            · have f5 : (((gf l (k - 1)).kind : Int) == 1) = true := by simp; omega
              have E1 := veil (putE_no (l := l.map FrM.fr) fun h => ((okT_iff l).2 h k (by rw [HL.out]; exact hlt)).2 (by omega) ⟨by rw [← EK.out]; exact q1, q2⟩)
              clear hm q1 q2 hk0 HTO EK
              generalize ((gf l (k - 1)).kind : Int) = z at *
              go_wp2_with fail
              go_ret2
              refine ⟨.slice none 0 0, by rw [E1.out]; rfl, ?_, HB1.out⟩
              rw [putO_err E1.out (by decide)]
              exact World.ownsRow_nil _ _ _ _
            · have f5 : (((gf l (k - 1)).kind : Int) == 1) = false := by simp; omega
              have HS := veil (okT_succ HTO.out (by rw [← EK.out]; exact hm) (fun _ h => q2 h.2))
              clear hm q1 q2 hk0 HTO EK
              generalize ((gf l (k - 1)).kind : Int) = z at *
              go_wp2_with fail
              go_roundw
              case rel => exact ⟨k + 1, by omega, by go_num, HS.out, HB1.out⟩
              case measure => simp [intOf]; omega
          · have f4 : ((kk : Int) == 1) = false := by simp; omega
            have HS := veil (okT_succ HTO.out (by rw [← EK.out]; exact hm) (fun _ h => q1 (by have := h.1; rwa [← EK.out] at this)))
            clear hm q1 hk0 HTO EK p0
            go_wp2_with fail
            go_roundw
            case rel => exact ⟨k + 1, by omega, by go_num, HS.out, HB1.out⟩
            case measure => simp [intOf]; omega
      · have E1 := veil (putE_no (l := l.map FrM.fr) fun h => hm (by have := ((okT_iff l).2 h k (by rw [HL.out]; exact hlt)).1; rwa [← EK.out] at this))
        clear hm HTO EK
        go_wp2_with fail
        go_ret2
        refine ⟨.slice none 0 0, by rw [E1.out]; rfl, ?_, HB1.out⟩
        rw [putO_err E1.out (by decide)]
        exact World.ownsRow_nil _ _ _ _
    · obtain rfl : len = k := by omega
      have HA := veil ((okT_iff l).1 (by rw [HL.out]; exact hto))
      have HB1 := veil hbel
      clear hto hbel
      by_cases h1024 : 1024 < len
      · have f1 : decide ((1024 : Int) < (len : Int)) = true := by simp; omega
        have f1n : decide (1024 < len) = true := by simp; omega
        have E1 := veil (putE_many HA.out (by rw [List.length_map, HL.out]; exact h1024))
        clear h1024
        go_wp2_with fail
        go_ret2
        refine ⟨.slice none 0 0, by rw [E1.out]; rfl, ?_, HB1.out⟩
        rw [putO_err E1.out (by decide)]
        exact World.ownsRow_nil _ _ _ _
      · have f1 : decide ((1024 : Int) < (len : Int)) = false := by simp; omega
        have f1n : decide (1024 < len) = false := by simp; omega
        have H1024 := veil h1024
        clear h1024
        go_wp2_with fail
        go_loopw [5, 6] (fun v i wr => ∃ k : Nat, k ≤ len ∧ i = .int .i64 k ∧ RowK w.heap.size (Fr.putAll ((l.take k).map FrM.fr)) wr v ∧ (Fr.putAll ((l.take k).map FrM.fr)).length ≤ 1048576 ∧ Below w.heap.size w wr)
          (fun _ i _ => len - (intOf i).toNat)
        case atStart => exact ⟨0, Nat.zero_le _, rfl, World.ownsRow_nil _ _ _ _, Nat.zero_le _, HB1.out⟩
        case round =>
          clear HB1
          obtain ⟨k, hk, rfl, hrow, hlen, hbel⟩ := hrel
          by_cases hlt : k < len
          · have e1 : a = some ⟨g, off, none⟩ := HP.out.at_ (show 0 < len by omega)
            subst e1
            have hc := (HP.out.below hbel).cell k hlt
            have HOKk := veil ((HP.out.below hbel).each k hlt)
            have HOKw := veil (HP.out.each k hlt)
            have hdk := HD.out k hlt
            have hm := ((okT_iff l).2 HA.out k (by rw [HL.out]; exact hlt)).1
            have hT := putAll_take l k (by rw [HL.out]; exact hlt)
            obtain ⟨K, ek⟩ : ∃ K, K = gf l k := ⟨_, rfl⟩
            simp only at hc hdk HOKk HOKw
            rw [← ek] at hc hdk HOKk HOKw hm hT
            obtain ⟨kk, st, of, li, co, fi, da, ra⟩ := K
            have a0 := hc 0 _ rfl
            have a1 := hc 1 _ rfl
            have a2 := hc 2 _ rfl
            have a3 := hc 3 _ rfl
            have a4 := hc 4 _ rfl
            have a5 := hc 5 _ rfl
            have a6 := hc 6 _ rfl
            have a7 := hc 7 _ rfl
            simp only [Nat.add_zero] at a0 a1 a2 a3 a4 a5 a6 a7
            have HB := veil hbel
            have HT := veil hT
            have HM := veil hm
            have HR := veil hrow
            clear hc hbel ek hT hm hrow
            go_wp2_with fail
            clear a0 a1 a2 a3 a4 a5 a6 a7
            refine (ref_frame _ w.heap.size ⟨kk, st, of, li, co, fi, da, ra⟩ _ wr HM.out HR.out HB.out.size (Nat.le_trans hlen (by decide)) HOKk.out hdk HOKw.out.data.lt HOKw.out.ranges.lt).mono ?_
            rintro e3 w3 ⟨v3, rfl, ho3, hk3⟩
            rw [← HT.out] at ho3
            have HB1 := veil (HB.out.trans hk3.bel)
            obtain ⟨a3, c3, rfl⟩ := own_shapeF ho3
            have HO3 := veil ho3
            clear ho3 hk3 HB HR HOKk HOKw HM
            by_cases hn : 1048576 < (Fr.putAll ((l.take (k + 1)).map FrM.fr)).length
            · have E1 := veil (putE_long HA.out (Nat.lt_of_lt_of_le hn (putAll_mono l (k + 1))))
              have f2 : decide ((1048576 : Int) < ((Fr.putAll ((l.take (k + 1)).map FrM.fr)).length : Int)) = true := decide_eq_true (by omega)
              have f2n : decide (1048576 < (Fr.putAll ((l.take (k + 1)).map FrM.fr)).length) = true := decide_eq_true (by omega)
              clear hn HO3 HT hlen
              generalize (Fr.putAll ((l.take (k + 1)).map FrM.fr)).length = N at *
              go_wp2_with fail
              go_ret2
              refine ⟨.slice none 0 0, by rw [E1.out]; rfl, ?_, HB1.out⟩
              rw [putO_err E1.out (by decide)]
              exact World.ownsRow_nil _ _ _ _
            · have f2 : decide ((1048576 : Int) < ((Fr.putAll ((l.take (k + 1)).map FrM.fr)).length : Int)) = false := decide_eq_false (by omega)
              have f2n : decide (1048576 < (Fr.putAll ((l.take (k + 1)).map FrM.fr)).length) = false := decide_eq_false (by omega)
              have HN := veil (Nat.le_of_not_lt hn)
              obtain ⟨N, eN⟩ : ∃ N, N = (Fr.putAll ((l.take (k + 1)).map FrM.fr)).length := ⟨_, rfl⟩
              rw [← eN] at f2 f2n
              have EN := veil eN
              rw [← eN]
              clear hn HT hlen eN
              go_wp2_with fail
              go_roundw
              case rel => exact ⟨k + 1, by omega, by go_num, by rw [EN.out]; exact HO3.out, HN.out, HB1.out⟩
              case measure => simp [intOf]; omega
          · obtain rfl : len = k := by omega
            rw [List.take_of_length_le (by rw [HL.out]; exact Nat.le_refl _)] at hrow hlen
            have E0 := veil (putE_ok HA.out (by rw [List.length_map, HL.out]; exact H1024.out) (Nat.not_lt.2 hlen))
            have HR := veil hrow
            have HB := veil hbel
            clear hrow hlen hbel
            go_wp2_with fail
            go_ret2
            refine ⟨_, by rw [E0.out]; rfl, ?_, HB.out⟩
            rw [putO_ok E0.out]
            exact HR.out
end Go.Proofs.YtaighdppemnglaaGreatDoor

/-! Ranges in a row of the call's own. -/
namespace Go.Proofs.YtaighdppemnglaaGreatDoor
open Go Go.RowKit

def vr (l : List (Nat × Nat)) : List Value := l.flatMap fun r => [Value.int .u64 (r.1 : Int), .int .u64 (r.2 : Int)]
def rC2 (r : Nat × Nat) : Array Value := #[.int .u64 (r.1 : Int), .int .u64 (r.2 : Int)]
theorem vr_length (l : List (Nat × Nat)) : (vr l).length = 2 * l.length := by
  induction l with
  | nil => rfl
  | cons r l ih =>
    rw [vr, List.flatMap_cons, List.length_append, List.length_cons]
    have : (l.flatMap fun r => [Value.int .u64 (r.1 : Int), .int .u64 (r.2 : Int)]).length = 2 * l.length := ih
    rw [this]
    simp only [List.length_cons, List.length_nil]
    omega
theorem vr_cons (r : Nat × Nat) (l : List (Nat × Nat)) : vr (r :: l) = .int .u64 (r.1 : Int) :: .int .u64 (r.2 : Int) :: vr l := rfl
theorem vr_append (a b : List (Nat × Nat)) : vr (a ++ b) = vr a ++ vr b := by unfold vr; rw [List.flatMap_append]
theorem vr_at : ∀ (l : List (Nat × Nat)) (j : Nat), j < l.length → (vr l)[j * 2]? = some (.int .u64 ((gr l j).1 : Int)) ∧ (vr l)[j * 2 + 1]? = some (.int .u64 ((gr l j).2 : Int))
  | [], _, h => absurd h (Nat.not_lt_zero _)
  | r :: l, 0, _ => ⟨rfl, rfl⟩
  | r :: l, j + 1, h => by
    have h2 := vr_at l j (by simpa using h)
    have e : gr (r :: l) (j + 1) = gr l j := by simp [gr]
    rw [e, vr_cons, show (j + 1) * 2 = j * 2 + 1 + 1 by omega, show j * 2 + 1 + 1 + 1 = (j * 2 + 1) + 1 + 1 by omega, List.getElem?_cons_succ, List.getElem?_cons_succ, List.getElem?_cons_succ, List.getElem?_cons_succ]
    exact h2
theorem vr_set : ∀ (l : List (Nat × Nat)) (j : Nat) (r : Nat × Nat), j < l.length → vr (l.set j r) = ((vr l).set (j * 2) (.int .u64 (r.1 : Int))).set (j * 2 + 1) (.int .u64 (r.2 : Int))
  | [], _, _, h => absurd h (Nat.not_lt_zero _)
  | q :: l, 0, r, _ => rfl
  | q :: l, j + 1, r, h => by
    rw [List.set_cons_succ, vr_cons, vr_set l j r (by simpa using h), vr_cons, show (j + 1) * 2 = j * 2 + 1 + 1 by omega, show j * 2 + 1 + 1 + 1 = (j * 2 + 1) + 1 + 1 by omega, List.set_cons_succ, List.set_cons_succ, List.set_cons_succ, List.set_cons_succ]
/-- One cell of a row of the call's own is written. -/
theorem own_cellS {w : World} {base n g cap k z : Nat} {e : TypeId} {xs : List Value} (h : w.ownsRow base e z (.slice (some ⟨g, 0, none⟩) n cap) n xs) (u : Value) : (w.setCell ⟨g, k, none⟩ u).ownsRow base e z (.slice (some ⟨g, 0, none⟩) n cap) n (xs.set k u) := by
  obtain ⟨h1, h2⟩ := h
  refine ⟨by rw [List.length_set]; exact h1, ?_⟩
  rcases h2 with ⟨h3, _⟩ | ⟨g', c', cur, h3, h4, h5, h6, h7, h8, h9⟩
  · cases h3
  · injection h3 with e1 e2 e3
    injection e1 with e1
    injection e1 with e1
    subst e1 e3
    refine .inr ⟨g, cap, cur.setIfInBounds k u, rfl, h4, (show Row w g e cur from h5).set k u, h6, h7, by rw [Array.size_setIfInBounds]; exact h8, ?_⟩
    rw [Array.toList_setIfInBounds, List.take_set, h9]
theorem own_pair {w : World} {base n g cap j : Nat} {l : List (Nat × Nat)} (h : w.ownsRow base 114 2 (.slice (some ⟨g, 0, none⟩) n cap) n (vr l)) (r : Nat × Nat) (hj : j < n) (hl : l.length = n) : (w.setCells g (j * 2) (rC2 r).toList).ownsRow base 114 2 (.slice (some ⟨g, 0, none⟩) n cap) n (vr (l.set j r)) := by
  rw [vr_set l j r (by omega)]
  exact own_cellS (own_cellS h _) _
theorem own_range {w : World} {base n g cap : Nat} {l : List (Nat × Nat)} (h : w.ownsRow base 114 2 (.slice (some ⟨g, 0, none⟩) n cap) n (vr l)) (hl : l.length = n) (j : Nat) (hj : j < n) : w.rangeAt g (0 + j * 2) (rC2 (gr l j)).toList := by
  have hc := h.cells (g := g) rfl
  obtain ⟨a1, a2⟩ := vr_at l j (by omega)
  intro q v hv
  match q, hv with
  | 0, hv =>
    rw [← Option.some.inj hv]
    have := hc _ _ a1
    rw [add_at, Nat.zero_add] at this
    rw [Nat.zero_add, Nat.add_zero]
    exact this
  | 1, hv =>
    rw [← Option.some.inj hv]
    have := hc _ _ a2
    rw [add_at, Nat.zero_add] at this
    rw [Nat.zero_add]
    exact this
  | _ + 2, hv => simp [rC2] at hv
theorem own_there {w : World} {base n g cap : Nat} {l : List (Nat × Nat)} (h : w.ownsRow base 114 2 (.slice (some ⟨g, 0, none⟩) n cap) n (vr l)) (hl : l.length = n) (j : Nat) (hj : j < n) : w.there g (0 + j * 2) 2 := by
  have hr := own_range h hl j hj
  rcases h.2 with ⟨h3, _⟩ | ⟨g', c', cur, h3, h4, h5, h6, h7, h8, h9⟩
  · cases h3
  · injection h3 with e1 e2 e3
    injection e1 with e1
    injection e1 with e1
    subst e1 e3
    intro q hq
    refine ⟨?_, (show Row w g 114 cur from h5).frozen _⟩
    match q, hq with
    | 0, _ => rw [hr 0 _ rfl]; rfl
    | 1, _ => rw [hr 1 _ rfl]; rfl
    | _ + 2, hq => omega
theorem vr_one (l : List (Nat × Nat)) : ∀ u ∈ vr l, u.oneCell' = true := by
  intro u hu
  obtain ⟨r, _, h⟩ := List.mem_flatMap.1 hu
  simp only [List.mem_cons, List.not_mem_nil, or_false] at h
  rcases h with rfl | rfl <;> rfl
theorem Tryz.infoRangeV : (Tryz.prog.info? 114).map (fun i => (i.zero, i.size, i.bytes)) = some (some (.agg (rC2 (0, 0))), 2, 16) := by kernel_rfl
theorem range_info : ∃ i0, Tryz.prog.info? 114 = some i0 ∧ i0.zero = some (.agg (rC2 (0, 0))) ∧ i0.size = 2 ∧ i0.bytes = 16 := by
  have h := Tryz.infoRangeV
  cases hq : Tryz.prog.info? 114 with
  | none => rw [hq] at h; cases h
  | some i =>
    rw [hq] at h
    simp only [Option.map_some, Option.some.injEq, Prod.mk.injEq] at h
    exact ⟨i, rfl, h.1, h.2.1, h.2.2⟩
theorem own_below2 {w w' : World} {B n z : Nat} {e : TypeId} {v : Value} {xs : List Value} (h : w.ownsRow B e z v n xs) (hb : Below w.heap.size w w') : w'.ownsRow B e z v n xs :=
  h.kept (row := none) ⟨hb.os, hb.tape, hb.output, hb.size, fun k hk _ => hb.block k hk⟩ (Classical.em _)
theorem own_low2 {w : World} {B B' n z : Nat} {e : TypeId} {v : Value} {xs : List Value} (h : w.ownsRow B e z v n xs) (hB : B' ≤ B) : w.ownsRow B' e z v n xs := by
  obtain ⟨h1, h2⟩ := h
  refine ⟨h1, ?_⟩
  rcases h2 with h2 | ⟨g, c, cur, h3, h4, h5⟩
  · exact .inl h2
  · exact .inr ⟨g, c, cur, h3, Nat.le_trans hB h4, h5⟩
theorem rl_own {w : World} {base n g cap : Nat} {l : List (Nat × Nat)} (h : w.ownsRow base 114 2 (.slice (some ⟨g, 0, none⟩) n cap) n (vr l)) (hl : l.length = n) (hs : ∀ j, (gr l j).1 < 18446744073709551616 ∧ (gr l j).2 < 18446744073709551616) : RL.Ok w ⟨some ⟨g, 0, none⟩, n, cap, g, 0, l⟩ := by
  refine ⟨hl, ?_, (fun e => by cases e), fun _ => rfl, fun _ => (h.lt g rfl).2, fun j hj => ?_, hs⟩
  · rcases h.2 with ⟨h3, _⟩ | ⟨g', c', cur, h3, h4, h5, h6, _⟩
    · cases h3
    · injection h3 with e1 e2 e3
      subst e3
      exact h6
  · have := own_range h hl j hj
    exact ⟨this 0 _ rfl, this 1 _ rfl⟩
end Go.Proofs.YtaighdppemnglaaGreatDoor
