/-
  Written by mkfl.py: what flow.mayBe, flow.Left and the document's answer.
-/
import Derived.Test.YtepkajaallcnmaaFlPlain
import Derived.Test.YtepkajaallcnmaaShaLoop
import Derived.Test.YtepkajaallcnmaaRows
namespace Go.Proofs.Ytepkajaallcnmaa
open Go Go.RowKit

set_option maxRecDepth 20000 in
theorem mayBe_any (l u : Nat) (w : World) :
    Calls Try.prog 24 #[.agg (crd (l, u))] w fun e w' => e = .returned (.bool (mayC l u)) ∧ Below w.heap.size w w' := by
  have B1 := veil ((Below.refl w.heap.size w).alloc (Nat.le_refl _) (.cells (crd (l, u)) 24))
  have r : Row (w.alloc (.cells (crd (l, u)) 24)) w.heap.size 24 (crd (l, u)) := Row.new _ _ _
  have c0 : (w.alloc (.cells (crd (l, u)) 24)).cell? ⟨w.heap.size, 0, none⟩ = some (.int .u64 (l : Int)) := r.cell 0
  have c1 : (w.alloc (.cells (crd (l, u)) 24)).cell? ⟨w.heap.size, 1, none⟩ = some (.int .u64 (u : Int)) := r.cell 1
  clear r
  unfold mayC
  by_cases h1 : l ≤ 4611686018427387903
  · rw [decide_eq_true h1, Bool.true_and]
    go_enter Try.func24, Try.ntmps24
    go_wp2_with fail
    go_ret
    exact ⟨by simp, B1.out⟩
  · rw [decide_eq_false h1, Bool.false_and]
    go_enter Try.func24, Try.ntmps24
    go_wp2_with fail
    go_ret
    exact ⟨rfl, B1.out⟩

set_option maxRecDepth 20000 in
theorem refMay_any (l u : Nat) (w : World) :
    Calls Try.prog 25 #[.agg (crd (l, u))] w fun e w' => e = .returned (.bool (mayC l u)) ∧ Below w.heap.size w w' := by
  have B1 := veil ((Below.refl w.heap.size w).alloc (Nat.le_refl _) (.cells (crd (l, u)) 30))
  have r : Row (w.alloc (.cells (crd (l, u)) 30)) w.heap.size 30 (crd (l, u)) := Row.new _ _ _
  have c0 : (w.alloc (.cells (crd (l, u)) 30)).cell? ⟨w.heap.size, 0, none⟩ = some (.int .u64 (l : Int)) := r.cell 0
  have c1 : (w.alloc (.cells (crd (l, u)) 30)).cell? ⟨w.heap.size, 1, none⟩ = some (.int .u64 (u : Int)) := r.cell 1
  clear r
  unfold mayC
  by_cases h1 : l ≤ 4611686018427387903
  · rw [decide_eq_true h1, Bool.true_and]
    go_enter Try.func25, Try.ntmps25
    go_wp2_with fail
    go_ret
    exact ⟨by simp, B1.out⟩
  · rw [decide_eq_false h1, Bool.false_and]
    go_enter Try.func25, Try.ntmps25
    go_wp2_with fail
    go_ret
    exact ⟨rfl, B1.out⟩

set_option maxRecDepth 20000 in
theorem left_any (l u : Nat) (w : World) :
    Calls Try.prog 17 #[.agg (crd (l, u))] w fun e w' => e = .returned (.int .u64 (leftC l u : Int)) ∧ Below w.heap.size w w' := by
  have r : Row (w.alloc (.cells (crd (l, u)) 24)) w.heap.size 24 (crd (l, u)) := Row.new _ _ _
  have b := (Below.refl w.heap.size w).alloc (Nat.le_refl _) (.cells (crd (l, u)) 24)
  have c0 : (w.alloc (.cells (crd (l, u)) 24)).cell? ⟨w.heap.size, 0, none⟩ = some (.int .u64 (l : Int)) := r.cell 0
  have c1 : (w.alloc (.cells (crd (l, u)) 24)).cell? ⟨w.heap.size, 1, none⟩ = some (.int .u64 (u : Int)) := r.cell 1
  have R := veil r
  have B := veil b
  clear r b
  have MC := veil (fun w => mayBe_any l u w)
  obtain ⟨g, hg⟩ : ∃ g, mayC l u = g := ⟨_, rfl⟩
  unfold leftC
  have hm := @mayC_out l u
  rw [hg] at hm MC ⊢
  clear hg
  cases g with
  | false =>
    clear hm
    rw [if_neg (by decide)]
    go_enter Try.func17, Try.ntmps17
    go_wp2_with fail
    refine (MC.out _).mono ?_
    rintro e1 w1 ⟨rfl, hb1⟩
    have B1 := veil (B.out.trans (hb1.mono (by simp)))
    clear c0 c1 hb1 MC
    go_wp2_with fail
    go_ret
    exact ⟨rfl, B1.out⟩
  | true =>
    obtain ⟨h1, h2⟩ := hm rfl
    clear hm
    rw [if_pos rfl]
    obtain ⟨k, hk0⟩ : ∃ k, l - u = k := ⟨_, rfl⟩
    have hk : (l : Int) - (u : Int) = (k : Int) := by omega
    have hk2 : k ≤ 4611686018427387903 := by omega
    rw [hk0]
    clear hk0
    go_enter Try.func17, Try.ntmps17
    go_wp2_with fail
    refine (MC.out _).mono ?_
    rintro e1 w1 ⟨rfl, hb1⟩
    have r1 := R.out.below hb1 (by simp)
    have B1 := veil (B.out.trans (hb1.mono (by simp)))
    have d0 : w1.cell? ⟨w.heap.size, 0, none⟩ = some (.int .u64 (l : Int)) := r1.cell 0
    have d1 : w1.cell? ⟨w.heap.size, 1, none⟩ = some (.int .u64 (u : Int)) := r1.cell 1
    clear c0 c1 r1 hb1 MC
    go_wp2_with fail
    go_ret
    exact ⟨rfl, B1.out⟩

set_option maxRecDepth 20000 in
theorem refLeft_any (l u : Nat) (w : World) :
    Calls Try.prog 18 #[.agg (crd (l, u))] w fun e w' => e = .returned (.int .u64 (leftC l u : Int)) ∧ Below w.heap.size w w' := by
  have r : Row (w.alloc (.cells (crd (l, u)) 30)) w.heap.size 30 (crd (l, u)) := Row.new _ _ _
  have b := (Below.refl w.heap.size w).alloc (Nat.le_refl _) (.cells (crd (l, u)) 30)
  have c0 : (w.alloc (.cells (crd (l, u)) 30)).cell? ⟨w.heap.size, 0, none⟩ = some (.int .u64 (l : Int)) := r.cell 0
  have c1 : (w.alloc (.cells (crd (l, u)) 30)).cell? ⟨w.heap.size, 1, none⟩ = some (.int .u64 (u : Int)) := r.cell 1
  have R := veil r
  have B := veil b
  clear r b
  have MC := veil (fun w => refMay_any l u w)
  obtain ⟨g, hg⟩ : ∃ g, mayC l u = g := ⟨_, rfl⟩
  unfold leftC
  have hm := @mayC_out l u
  rw [hg] at hm MC ⊢
  clear hg
  cases g with
  | false =>
    clear hm
    rw [if_neg (by decide)]
    go_enter Try.func18, Try.ntmps18
    go_wp2_with fail
    refine (MC.out _).mono ?_
    rintro e1 w1 ⟨rfl, hb1⟩
    have B1 := veil (B.out.trans (hb1.mono (by simp)))
    clear c0 c1 hb1 MC
    go_wp2_with fail
    go_ret
    exact ⟨rfl, B1.out⟩
  | true =>
    obtain ⟨h1, h2⟩ := hm rfl
    clear hm
    rw [if_pos rfl]
    obtain ⟨k, hk0⟩ : ∃ k, l - u = k := ⟨_, rfl⟩
    have hk : (l : Int) - (u : Int) = (k : Int) := by omega
    have hk2 : k ≤ 4611686018427387903 := by omega
    rw [hk0]
    clear hk0
    go_enter Try.func18, Try.ntmps18
    go_wp2_with fail
    refine (MC.out _).mono ?_
    rintro e1 w1 ⟨rfl, hb1⟩
    have r1 := R.out.below hb1 (by simp)
    have B1 := veil (B.out.trans (hb1.mono (by simp)))
    have d0 : w1.cell? ⟨w.heap.size, 0, none⟩ = some (.int .u64 (l : Int)) := r1.cell 0
    have d1 : w1.cell? ⟨w.heap.size, 1, none⟩ = some (.int .u64 (u : Int)) := r1.cell 1
    clear c0 c1 r1 hb1 MC
    go_wp2_with fail
    go_ret
    exact ⟨rfl, B1.out⟩
end Go.Proofs.Ytepkajaallcnmaa
