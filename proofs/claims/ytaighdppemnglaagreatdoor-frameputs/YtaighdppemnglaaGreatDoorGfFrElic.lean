/-
  Whether a frame asks for an answer: the code's word and the document's.
-/
import Derived.Test.YtaighdppemnglaaGreatDoorGf5
namespace Go.Proofs.YtaighdppemnglaaGreatDoor
open Go Go.RowKit

def elic (k : Nat) : Bool := isK k && decide (k ≠ 1 ∧ k ≠ 3 ∧ k ≠ 13)
set_option maxRecDepth 20000 in
set_option maxHeartbeats 1000000 in
theorem elic_code (f : FrM) (w : World) (hf : f.kind < 256) :
    Calls Tryz.prog 12 #[.agg f.cells] w fun e w' => e = .returned (.bool (elic f.kind)) ∧ Below w.heap.size w w' := by
  obtain ⟨W0, hW0⟩ : ∃ W, W = w.alloc (.cells f.cells 37) := ⟨_, rfl⟩
  have r0 : Row W0 w.heap.size 37 f.cells := by rw [hW0]; exact Row.new _ _ _
  have b0 : Below w.heap.size w W0 := by rw [hW0]; exact (Below.refl _ w).alloc (Nat.le_refl _) _
  obtain ⟨c0, _⟩ := fr_cells r0
  rw [hW0] at c0 b0
  clear r0 hW0
  by_cases h1 : f.kind = 1
  · have e1 : ((f.kind : Int) == 1) = true := by simp; omega
    have HE := veil (show elic f.kind = false by unfold elic; simp [h1])
    clear h1
    go_enter Tryz.func12, Tryz.ntmps12
    go_wp2_with fail
    go_ret
    exact ⟨by rw [HE.out]; rfl, b0⟩
  have e1 : ((f.kind : Int) == 1) = false := by simp; omega
  by_cases h3 : f.kind = 3
  · have e3 : ((f.kind : Int) == 3) = true := by simp; omega
    have HE := veil (show elic f.kind = false by unfold elic; simp [h3])
    clear h1 h3
    go_enter Tryz.func12, Tryz.ntmps12
    go_wp2_with fail
    go_ret
    exact ⟨by rw [HE.out]; rfl, b0⟩
  have e3 : ((f.kind : Int) == 3) = false := by simp; omega
  by_cases h13 : f.kind = 13
  · have e13 : ((f.kind : Int) == 13) = true := by simp; omega
    have HE := veil (show elic f.kind = false by unfold elic; simp [h13])
    clear h1 h3 h13
    go_enter Tryz.func12, Tryz.ntmps12
    go_wp2_with fail
    go_ret
    exact ⟨by rw [HE.out]; rfl, b0⟩
  have e13 : ((f.kind : Int) == 13) = false := by simp; omega
  have HE := veil (show elic f.kind = isK f.kind by unfold elic; simp [h1, h3, h13])
  clear h1 h3 h13
  go_enter Tryz.func12, Tryz.ntmps12
  go_wp2_with fail
  refine (fr_kind f.kind _ hf).mono ?_
  rintro e5 w5 ⟨rfl, rfl⟩
  go_wp2_with fail
  go_ret
  exact ⟨by rw [HE.out]; rfl, b0⟩
set_option maxRecDepth 20000 in
set_option maxHeartbeats 1000000 in
theorem elic_ref (f : FrM) (w : World) (hf : f.kind < 256) :
    Calls Tryz.prog 13 #[.agg f.cells] w fun e w' => e = .returned (.bool (elic f.kind)) ∧ Below w.heap.size w w' := by
  obtain ⟨W0, hW0⟩ : ∃ W, W = w.alloc (.cells f.cells 37) := ⟨_, rfl⟩
  have r0 : Row W0 w.heap.size 37 f.cells := by rw [hW0]; exact Row.new _ _ _
  have b0 : Below w.heap.size w W0 := by rw [hW0]; exact (Below.refl _ w).alloc (Nat.le_refl _) _
  obtain ⟨c0, _⟩ := fr_cells r0
  rw [hW0] at c0 b0
  clear r0 hW0
  by_cases h0 : f.kind = 0
  · have d0 : decide ((1 : Int) ≤ (f.kind : Int)) = false := decide_eq_false (by omega)
    have HE := veil (show elic f.kind = false by unfold elic isK; simp [h0])
    clear h0
    go_enter Tryz.func13, Tryz.ntmps13
    go_wp2_with fail
    go_ret
    exact ⟨by rw [HE.out]; rfl, b0⟩
  have d0 : decide ((1 : Int) ≤ (f.kind : Int)) = true := decide_eq_true (by omega)
  by_cases h14 : 14 < f.kind
  · have d1 : decide ((f.kind : Int) ≤ 14) = false := decide_eq_false (by omega)
    have HE := veil (show elic f.kind = false by unfold elic isK; simp; omega)
    clear h0 h14
    go_enter Tryz.func13, Tryz.ntmps13
    go_wp2_with fail
    go_ret
    exact ⟨by rw [HE.out]; rfl, b0⟩
  have d1 : decide ((f.kind : Int) ≤ 14) = true := decide_eq_true (by omega)
  by_cases h1 : f.kind = 1
  · have e1 : ((f.kind : Int) != 1) = false := by simp; omega
    have HE := veil (show elic f.kind = false by unfold elic; simp [h1])
    clear h0 h14 h1
    go_enter Tryz.func13, Tryz.ntmps13
    go_wp2_with fail
    go_ret
    exact ⟨by rw [HE.out]; rfl, b0⟩
  have e1 : ((f.kind : Int) != 1) = true := by simp; omega
  by_cases h3 : f.kind = 3
  · have e3 : ((f.kind : Int) != 3) = false := by simp; omega
    have HE := veil (show elic f.kind = false by unfold elic; simp [h3])
    clear h0 h14 h1 h3
    go_enter Tryz.func13, Tryz.ntmps13
    go_wp2_with fail
    go_ret
    exact ⟨by rw [HE.out]; rfl, b0⟩
  have e3 : ((f.kind : Int) != 3) = true := by simp; omega
  by_cases h13 : f.kind = 13
  · have e13 : ((f.kind : Int) != 13) = false := by simp; omega
    have HE := veil (show elic f.kind = false by unfold elic; simp [h13])
    clear h0 h14 h1 h3 h13
    go_enter Tryz.func13, Tryz.ntmps13
    go_wp2_with fail
    go_ret
    exact ⟨by rw [HE.out]; rfl, b0⟩
  have e13 : ((f.kind : Int) != 13) = true := by simp; omega
  have HE := veil (show elic f.kind = true by unfold elic isK; simp; omega)
  clear h0 h14 h1 h3 h13
  go_enter Tryz.func13, Tryz.ntmps13
  go_wp2_with fail
  go_ret
  exact ⟨by rw [HE.out]; rfl, b0⟩
end Go.Proofs.YtaighdppemnglaaGreatDoor
