/-
  Written by mkfl.py: what flow.Offer and the document's answer.
-/
import Derived.Test.YtepkajaallcnmaaFlSpend
import Derived.Lib.MinMax
namespace Go.Proofs.Ytepkajaallcnmaa
open Go Go.RowKit

set_option maxRecDepth 20000 in
set_option maxHeartbeats 1000000 in
theorem offer_any (l u r m : Nat) (w : World) (hr : r < 18446744073709551616) (hm : m < 18446744073709551616) :
    Calls Try.prog 11 #[.agg (crd (l, u)), .int .u64 (r : Int), .int .u64 (m : Int)] w fun e w' => e = .returned (.tuple #[.int .u64 (offerO l u r m : Int), .bool (offerB l u r m)]) ∧ Below w.heap.size w w' := by
  have r0 : Row (w.alloc (.cells (crd (l, u)) 24)) w.heap.size 24 (crd (l, u)) := Row.new _ _ _
  have b := (Below.refl w.heap.size w).alloc (Nat.le_refl _) (.cells (crd (l, u)) 24)
  have c0 : (w.alloc (.cells (crd (l, u)) 24)).cell? ⟨w.heap.size, 0, none⟩ = some (.int .u64 (l : Int)) := r0.cell 0
  have c1 : (w.alloc (.cells (crd (l, u)) 24)).cell? ⟨w.heap.size, 1, none⟩ = some (.int .u64 (u : Int)) := r0.cell 1
  have R := veil r0
  have B := veil b
  clear r0 b
  have MC := veil (fun w => mayBe_any l u w)
  have hmay := @mayC_out l u
  cases hg : mayC l u
  · have hB : offerB l u r m = false := by unfold offerB; rw [hg]; rfl
    rw [show offerO l u r m = 0 from if_neg (by rw [hB]; decide), hB]
    rw [hg] at MC
    clear hB hg hmay
    go_enter Try.func11, Try.ntmps11
    go_wp2_with fail
    refine (MC.out _).mono ?_
    rintro e1 w1 ⟨rfl, hb1⟩
    have r1 := R.out.below hb1 (by simp)
    have B1 := veil (B.out.trans (hb1.mono (by simp)))
    have d0 : w1.cell? ⟨w.heap.size, 0, none⟩ = some (.int .u64 (l : Int)) := r1.cell 0
    have d1 : w1.cell? ⟨w.heap.size, 1, none⟩ = some (.int .u64 (u : Int)) := r1.cell 1
    clear c0 c1 r1 hb1 MC
    go_wp2_with fail
    go_ret2
    exact ⟨rfl, B1.out⟩
  · obtain ⟨h1, h2⟩ := hmay hg
    have hB0 : offerB l u r m = (decide (r ≤ 4611686018427387903) && decide (m ≤ 4611686018427387903) && decide (l < limC r m) && decide (m ≤ 2 * (limC r m - l))) := by unfold offerB; rw [hg]; rfl
    rw [hg] at MC
    clear hg hmay
    by_cases h3 : r ≤ 4611686018427387903
    · rw [decide_eq_true h3, Bool.true_and] at hB0
      by_cases h4 : m ≤ 4611686018427387903
      · rw [decide_eq_true h4, Bool.true_and] at hB0
        have hs : r + m < 18446744073709551616 := by omega
        obtain ⟨k, hk⟩ : ∃ k, limC r m = k := ⟨_, rfl⟩
        have hkk : (r + m ≤ 4611686018427387903 ∧ k = r + m) ∨ (4611686018427387903 < r + m ∧ k = 4611686018427387903) := by
          rw [← hk]; unfold limC
          rcases Nat.le_total (r + m) 4611686018427387903 with q | q
          · exact .inl ⟨q, Nat.min_eq_left q⟩
          · by_cases e : r + m = 4611686018427387903
            · exact .inl ⟨by omega, by rw [e]; rfl⟩
            · exact .inr ⟨by omega, Nat.min_eq_right q⟩
        rw [hk] at hB0
        by_cases h5 : l < k
        · rw [decide_eq_true h5, Bool.true_and] at hB0
          by_cases h6 : m ≤ 2 * (k - l)
          · have hB : offerB l u r m = true := by rw [hB0]; exact decide_eq_true h6
            rw [show offerO l u r m = k from (if_pos hB).trans hk, hB]
            clear hB hB0 hk
            obtain ⟨y, hy⟩ : ∃ y, k = l + y := ⟨k - l, by omega⟩
            have h6' : m ≤ 2 * y := by rw [hy] at h6; omega
            clear h6
            have hk9 : min ((r : Int) + (m : Int)) 4611686018427387903 = (k : Int) := by omega
            have hk8 : (k : Int) - (l : Int) = (y : Int) := by omega
            have hk7 : (k : Int) ≤ 4611686018427387903 := by omega
            have hy2 : y ≤ 4611686018427387903 := by omega
            clear hy hkk
            go_enter Try.func11, Try.ntmps11
            go_wp2_with fail
            refine (MC.out _).mono ?_
            rintro e1 w1 ⟨rfl, hb1⟩
            have r1 := R.out.below hb1 (by simp)
            have B1 := veil (B.out.trans (hb1.mono (by simp)))
            have d0 : w1.cell? ⟨w.heap.size, 0, none⟩ = some (.int .u64 (l : Int)) := r1.cell 0
            have d1 : w1.cell? ⟨w.heap.size, 1, none⟩ = some (.int .u64 (u : Int)) := r1.cell 1
            clear c0 c1 r1 hb1 MC
            go_wp2_with fail
            go_ret2
            exact ⟨rfl, B1.out⟩
          · have hB : offerB l u r m = false := by rw [hB0]; exact decide_eq_false h6
            rw [show offerO l u r m = 0 from if_neg (by rw [hB]; decide), hB]
            clear hB hB0 hk
            obtain ⟨y, hy⟩ : ∃ y, k = l + y := ⟨k - l, by omega⟩
            have h6' : 2 * y < m := by rw [hy] at h6; omega
            clear h6
            have hk9 : min ((r : Int) + (m : Int)) 4611686018427387903 = (k : Int) := by omega
            have hk8 : (k : Int) - (l : Int) = (y : Int) := by omega
            have hk7 : (k : Int) ≤ 4611686018427387903 := by omega
            have hy2 : y ≤ 4611686018427387903 := by omega
            clear hy hkk
            go_enter Try.func11, Try.ntmps11
            go_wp2_with fail
            refine (MC.out _).mono ?_
            rintro e1 w1 ⟨rfl, hb1⟩
            have r1 := R.out.below hb1 (by simp)
            have B1 := veil (B.out.trans (hb1.mono (by simp)))
            have d0 : w1.cell? ⟨w.heap.size, 0, none⟩ = some (.int .u64 (l : Int)) := r1.cell 0
            have d1 : w1.cell? ⟨w.heap.size, 1, none⟩ = some (.int .u64 (u : Int)) := r1.cell 1
            clear c0 c1 r1 hb1 MC
            go_wp2_with fail
            go_ret2
            exact ⟨rfl, B1.out⟩
        · have hB : offerB l u r m = false := by rw [hB0, decide_eq_false h5]; rfl
          rw [show offerO l u r m = 0 from if_neg (by rw [hB]; decide), hB]
          clear hB hB0 hk
          have hk9 : min ((r : Int) + (m : Int)) 4611686018427387903 = (k : Int) := by omega
          have hk7 : (k : Int) ≤ 4611686018427387903 := by omega
          clear hkk
          go_enter Try.func11, Try.ntmps11
          go_wp2_with fail
          refine (MC.out _).mono ?_
          rintro e1 w1 ⟨rfl, hb1⟩
          have r1 := R.out.below hb1 (by simp)
          have B1 := veil (B.out.trans (hb1.mono (by simp)))
          have d0 : w1.cell? ⟨w.heap.size, 0, none⟩ = some (.int .u64 (l : Int)) := r1.cell 0
          have d1 : w1.cell? ⟨w.heap.size, 1, none⟩ = some (.int .u64 (u : Int)) := r1.cell 1
          clear c0 c1 r1 hb1 MC
          go_wp2_with fail
          go_ret2
          exact ⟨rfl, B1.out⟩
      · have hB : offerB l u r m = false := by rw [hB0, decide_eq_false h4]; rfl
        rw [show offerO l u r m = 0 from if_neg (by rw [hB]; decide), hB]
        clear hB hB0
        go_enter Try.func11, Try.ntmps11
        go_wp2_with fail
        refine (MC.out _).mono ?_
        rintro e1 w1 ⟨rfl, hb1⟩
        have r1 := R.out.below hb1 (by simp)
        have B1 := veil (B.out.trans (hb1.mono (by simp)))
        have d0 : w1.cell? ⟨w.heap.size, 0, none⟩ = some (.int .u64 (l : Int)) := r1.cell 0
        have d1 : w1.cell? ⟨w.heap.size, 1, none⟩ = some (.int .u64 (u : Int)) := r1.cell 1
        clear c0 c1 r1 hb1 MC
        go_wp2_with fail
        go_ret2
        exact ⟨rfl, B1.out⟩
    · have hB : offerB l u r m = false := by rw [hB0, decide_eq_false h3]; rfl
      rw [show offerO l u r m = 0 from if_neg (by rw [hB]; decide), hB]
      clear hB hB0
      go_enter Try.func11, Try.ntmps11
      go_wp2_with fail
      refine (MC.out _).mono ?_
      rintro e1 w1 ⟨rfl, hb1⟩
      have r1 := R.out.below hb1 (by simp)
      have B1 := veil (B.out.trans (hb1.mono (by simp)))
      have d0 : w1.cell? ⟨w.heap.size, 0, none⟩ = some (.int .u64 (l : Int)) := r1.cell 0
      have d1 : w1.cell? ⟨w.heap.size, 1, none⟩ = some (.int .u64 (u : Int)) := r1.cell 1
      clear c0 c1 r1 hb1 MC
      go_wp2_with fail
      go_ret2
      exact ⟨rfl, B1.out⟩

set_option maxRecDepth 20000 in
set_option maxHeartbeats 1000000 in
theorem refOffer_any (l u r m : Nat) (w : World) (hr : r < 18446744073709551616) (hm : m < 18446744073709551616) :
    Calls Try.prog 16 #[.agg (crd (l, u)), .int .u64 (r : Int), .int .u64 (m : Int)] w fun e w' => e = .returned (.tuple #[.int .u64 (offerO l u r m : Int), .bool (offerB l u r m)]) ∧ Below w.heap.size w w' := by
  have r0 : Row (w.alloc (.cells (crd (l, u)) 30)) w.heap.size 30 (crd (l, u)) := Row.new _ _ _
  have b := (Below.refl w.heap.size w).alloc (Nat.le_refl _) (.cells (crd (l, u)) 30)
  have c0 : (w.alloc (.cells (crd (l, u)) 30)).cell? ⟨w.heap.size, 0, none⟩ = some (.int .u64 (l : Int)) := r0.cell 0
  have c1 : (w.alloc (.cells (crd (l, u)) 30)).cell? ⟨w.heap.size, 1, none⟩ = some (.int .u64 (u : Int)) := r0.cell 1
  have R := veil r0
  have B := veil b
  clear r0 b
  have MC := veil (fun w => refMay_any l u w)
  have hmay := @mayC_out l u
  cases hg : mayC l u
  · have hB : offerB l u r m = false := by unfold offerB; rw [hg]; rfl
    rw [show offerO l u r m = 0 from if_neg (by rw [hB]; decide), hB]
    rw [hg] at MC
    clear hB hg hmay
    go_enter Try.func16, Try.ntmps16
    go_wp2_with fail
    refine (MC.out _).mono ?_
    rintro e1 w1 ⟨rfl, hb1⟩
    have r1 := R.out.below hb1 (by simp)
    have B1 := veil (B.out.trans (hb1.mono (by simp)))
    have d0 : w1.cell? ⟨w.heap.size, 0, none⟩ = some (.int .u64 (l : Int)) := r1.cell 0
    have d1 : w1.cell? ⟨w.heap.size, 1, none⟩ = some (.int .u64 (u : Int)) := r1.cell 1
    clear c0 c1 r1 hb1 MC
    go_wp2_with fail
    go_ret2
    exact ⟨rfl, B1.out⟩
  · obtain ⟨h1, h2⟩ := hmay hg
    have hB0 : offerB l u r m = (decide (r ≤ 4611686018427387903) && decide (m ≤ 4611686018427387903) && decide (l < limC r m) && decide (m ≤ 2 * (limC r m - l))) := by unfold offerB; rw [hg]; rfl
    rw [hg] at MC
    clear hg hmay
    by_cases h3 : r ≤ 4611686018427387903
    · rw [decide_eq_true h3, Bool.true_and] at hB0
      by_cases h4 : m ≤ 4611686018427387903
      · rw [decide_eq_true h4, Bool.true_and] at hB0
        have hs : r + m < 18446744073709551616 := by omega
        obtain ⟨k, hk⟩ : ∃ k, limC r m = k := ⟨_, rfl⟩
        have hkk : (r + m ≤ 4611686018427387903 ∧ k = r + m) ∨ (4611686018427387903 < r + m ∧ k = 4611686018427387903) := by
          rw [← hk]; unfold limC
          rcases Nat.le_total (r + m) 4611686018427387903 with q | q
          · exact .inl ⟨q, Nat.min_eq_left q⟩
          · by_cases e : r + m = 4611686018427387903
            · exact .inl ⟨by omega, by rw [e]; rfl⟩
            · exact .inr ⟨by omega, Nat.min_eq_right q⟩
        rw [hk] at hB0
        by_cases h5 : l < k
        · rw [decide_eq_true h5, Bool.true_and] at hB0
          by_cases h6 : m ≤ 2 * (k - l)
          · have hB : offerB l u r m = true := by rw [hB0]; exact decide_eq_true h6
            rw [show offerO l u r m = k from (if_pos hB).trans hk, hB]
            clear hB hB0 hk
            obtain ⟨y, hy⟩ : ∃ y, k = l + y := ⟨k - l, by omega⟩
            have h6' : m ≤ 2 * y := by rw [hy] at h6; omega
            clear h6
            have hk9 : min ((r : Int) + (m : Int)) 4611686018427387903 = (k : Int) := by omega
            have hk8 : (k : Int) - (l : Int) = (y : Int) := by omega
            have hk7 : (k : Int) ≤ 4611686018427387903 := by omega
            have hy2 : y ≤ 4611686018427387903 := by omega
            clear hy hkk
            go_enter Try.func16, Try.ntmps16
            go_wp2_with fail
            refine (MC.out _).mono ?_
            rintro e1 w1 ⟨rfl, hb1⟩
            have r1 := R.out.below hb1 (by simp)
            have B1 := veil (B.out.trans (hb1.mono (by simp)))
            have d0 : w1.cell? ⟨w.heap.size, 0, none⟩ = some (.int .u64 (l : Int)) := r1.cell 0
            have d1 : w1.cell? ⟨w.heap.size, 1, none⟩ = some (.int .u64 (u : Int)) := r1.cell 1
            clear c0 c1 r1 hb1 MC
            go_wp2_with fail
            go_ret2
            exact ⟨rfl, B1.out⟩
          · have hB : offerB l u r m = false := by rw [hB0]; exact decide_eq_false h6
            rw [show offerO l u r m = 0 from if_neg (by rw [hB]; decide), hB]
            clear hB hB0 hk
            obtain ⟨y, hy⟩ : ∃ y, k = l + y := ⟨k - l, by omega⟩
            have h6' : 2 * y < m := by rw [hy] at h6; omega
            clear h6
            have hk9 : min ((r : Int) + (m : Int)) 4611686018427387903 = (k : Int) := by omega
            have hk8 : (k : Int) - (l : Int) = (y : Int) := by omega
            have hk7 : (k : Int) ≤ 4611686018427387903 := by omega
            have hy2 : y ≤ 4611686018427387903 := by omega
            clear hy hkk
            go_enter Try.func16, Try.ntmps16
            go_wp2_with fail
            refine (MC.out _).mono ?_
            rintro e1 w1 ⟨rfl, hb1⟩
            have r1 := R.out.below hb1 (by simp)
            have B1 := veil (B.out.trans (hb1.mono (by simp)))
            have d0 : w1.cell? ⟨w.heap.size, 0, none⟩ = some (.int .u64 (l : Int)) := r1.cell 0
            have d1 : w1.cell? ⟨w.heap.size, 1, none⟩ = some (.int .u64 (u : Int)) := r1.cell 1
            clear c0 c1 r1 hb1 MC
            go_wp2_with fail
            go_ret2
            exact ⟨rfl, B1.out⟩
        · have hB : offerB l u r m = false := by rw [hB0, decide_eq_false h5]; rfl
          rw [show offerO l u r m = 0 from if_neg (by rw [hB]; decide), hB]
          clear hB hB0 hk
          have hk9 : min ((r : Int) + (m : Int)) 4611686018427387903 = (k : Int) := by omega
          have hk7 : (k : Int) ≤ 4611686018427387903 := by omega
          clear hkk
          go_enter Try.func16, Try.ntmps16
          go_wp2_with fail
          refine (MC.out _).mono ?_
          rintro e1 w1 ⟨rfl, hb1⟩
          have r1 := R.out.below hb1 (by simp)
          have B1 := veil (B.out.trans (hb1.mono (by simp)))
          have d0 : w1.cell? ⟨w.heap.size, 0, none⟩ = some (.int .u64 (l : Int)) := r1.cell 0
          have d1 : w1.cell? ⟨w.heap.size, 1, none⟩ = some (.int .u64 (u : Int)) := r1.cell 1
          clear c0 c1 r1 hb1 MC
          go_wp2_with fail
          go_ret2
          exact ⟨rfl, B1.out⟩
      · have hB : offerB l u r m = false := by rw [hB0, decide_eq_false h4]; rfl
        rw [show offerO l u r m = 0 from if_neg (by rw [hB]; decide), hB]
        clear hB hB0
        go_enter Try.func16, Try.ntmps16
        go_wp2_with fail
        refine (MC.out _).mono ?_
        rintro e1 w1 ⟨rfl, hb1⟩
        have r1 := R.out.below hb1 (by simp)
        have B1 := veil (B.out.trans (hb1.mono (by simp)))
        have d0 : w1.cell? ⟨w.heap.size, 0, none⟩ = some (.int .u64 (l : Int)) := r1.cell 0
        have d1 : w1.cell? ⟨w.heap.size, 1, none⟩ = some (.int .u64 (u : Int)) := r1.cell 1
        clear c0 c1 r1 hb1 MC
        go_wp2_with fail
        go_ret2
        exact ⟨rfl, B1.out⟩
    · have hB : offerB l u r m = false := by rw [hB0, decide_eq_false h3]; rfl
      rw [show offerO l u r m = 0 from if_neg (by rw [hB]; decide), hB]
      clear hB hB0
      go_enter Try.func16, Try.ntmps16
      go_wp2_with fail
      refine (MC.out _).mono ?_
      rintro e1 w1 ⟨rfl, hb1⟩
      have r1 := R.out.below hb1 (by simp)
      have B1 := veil (B.out.trans (hb1.mono (by simp)))
      have d0 : w1.cell? ⟨w.heap.size, 0, none⟩ = some (.int .u64 (l : Int)) := r1.cell 0
      have d1 : w1.cell? ⟨w.heap.size, 1, none⟩ = some (.int .u64 (u : Int)) := r1.cell 1
      clear c0 c1 r1 hb1 MC
      go_wp2_with fail
      go_ret2
      exact ⟨rfl, B1.out⟩
end Go.Proofs.Ytepkajaallcnmaa
