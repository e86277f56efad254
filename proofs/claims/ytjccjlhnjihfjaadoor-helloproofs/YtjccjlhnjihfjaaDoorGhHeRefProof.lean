/-
  The document's proof that somebody knows what both share.
-/
import Derived.Test.YtjccjlhnjihfjaaDoorGhHeProof
namespace Go.Proofs.YtjccjlhnjihfjaaDoor
open Go Go.RowKit

/-! ### Refused -/
set_option maxRecDepth 20000 in
set_option maxHeartbeats 1000000 in
theorem refProof_no (s t : SL) (sv : Bool) (w : World) (hs : s.Ok w) (ht : t.Ok w) (h : (s.len < 1 ∨ 256 < s.len) ∨ 1048576 < t.len) :
    Calls Tryd.prog 20 #[.slice s.a s.len s.cap, .slice t.a t.len t.cap, .bool sv] w (ProofR s.b t.b sv w) := by
  have b0 : Below w.heap.size w (w.alloc (.cells (bs z32) 23)) := (Below.refl _ w).alloc (Nat.le_refl _) _
  have q0 : Row (w.alloc (.cells (bs z32) 23)) w.heap.size 23 (bs z32) := Row.new _ _ _
  obtain ⟨E, hA, hE, hcase⟩ : ∃ E : Int, pfA s.b t.b sv = z32 ∧ pfE s.b t.b sv = E ∧ ((s.len < 1 ∧ E = 1) ∨ (256 < s.len ∧ E = 1) ∨ (1 ≤ s.len ∧ s.len ≤ 256 ∧ 1048576 < t.len ∧ E = 3)) := by
    unfold pfA pfE
    rw [hs.hb, ht.hb]
    by_cases h1 : s.len < 1 ∨ 256 < s.len
    · rw [if_pos h1, if_pos h1]
      exact ⟨1, rfl, rfl, by omega⟩
    · rw [if_neg h1, if_neg h1, if_pos (by omega), if_pos (by omega)]
      exact ⟨3, rfl, rfl, by omega⟩
  have HB := veil b0
  have HQ := veil q0
  unfold ProofR
  rw [hA, hE]
  clear hA hE h hs ht b0 q0
  rcases hcase with ⟨h1, rfl⟩ | ⟨h1, rfl⟩ | ⟨h1, h2, h3, rfl⟩
  · have d1 : decide ((s.len : Int) < 1) = true := decide_eq_true (by omega)
    go_enter Tryd.func20, Tryd.ntmps20
    go_wp2_with (first
      | (with_reducible (show wpList _ _ _ (⟨_, Op.alloc 23, _, _, _, _⟩ :: _) _ _)
         refine alloc_row rfl 23 rfl (bs z32) (by kernel_rfl) ?_)
      | (with_reducible (show wpList _ _ _ (⟨_, Op.build 23 _, _, _, _, _⟩ :: _) _ _)
         refine build_row rfl 23 _ rfl (bs z32) (by kernel_rfl) ?_)
      | (with_reducible (show wpList _ _ _ (⟨_, Op.store 23 _ _, _, _, _, _⟩ :: _) _ _)
         refine store_new (w := w) rfl 23 _ _ rfl w.heap.size (bs z32) rfl rfl _ _ rfl 32 (by kernel_rfl) (by rfl) (by rfl) (bs_one _) ?_))
    exact bodyPost_ret (result_row_tmp rfl _ _ w.heap.size _ _ HQ.out 32 5 (.int .i64 1) rfl rfl Tryd.underlying23 (by kernel_rfl) rfl) rfl ⟨rfl, HB.out⟩
  · have d1 : decide ((s.len : Int) < 1) = false := decide_eq_false (by omega)
    have d2 : decide ((256 : Int) < (s.len : Int)) = true := decide_eq_true (by omega)
    go_enter Tryd.func20, Tryd.ntmps20
    go_wp2_with (first
      | (with_reducible (show wpList _ _ _ (⟨_, Op.alloc 23, _, _, _, _⟩ :: _) _ _)
         refine alloc_row rfl 23 rfl (bs z32) (by kernel_rfl) ?_)
      | (with_reducible (show wpList _ _ _ (⟨_, Op.build 23 _, _, _, _, _⟩ :: _) _ _)
         refine build_row rfl 23 _ rfl (bs z32) (by kernel_rfl) ?_)
      | (with_reducible (show wpList _ _ _ (⟨_, Op.store 23 _ _, _, _, _, _⟩ :: _) _ _)
         refine store_new (w := w) rfl 23 _ _ rfl w.heap.size (bs z32) rfl rfl _ _ rfl 32 (by kernel_rfl) (by rfl) (by rfl) (bs_one _) ?_))
    exact bodyPost_ret (result_row_tmp rfl _ _ w.heap.size _ _ HQ.out 32 5 (.int .i64 1) rfl rfl Tryd.underlying23 (by kernel_rfl) rfl) rfl ⟨rfl, HB.out⟩
  · have d1 : decide ((s.len : Int) < 1) = false := decide_eq_false (by omega)
    have d2 : decide ((256 : Int) < (s.len : Int)) = false := decide_eq_false (by omega)
    have d3 : decide ((1048576 : Int) < (t.len : Int)) = true := decide_eq_true (by omega)
    go_enter Tryd.func20, Tryd.ntmps20
    go_wp2_with (first
      | (with_reducible (show wpList _ _ _ (⟨_, Op.alloc 23, _, _, _, _⟩ :: _) _ _)
         refine alloc_row rfl 23 rfl (bs z32) (by kernel_rfl) ?_)
      | (with_reducible (show wpList _ _ _ (⟨_, Op.build 23 _, _, _, _, _⟩ :: _) _ _)
         refine build_row rfl 23 _ rfl (bs z32) (by kernel_rfl) ?_)
      | (with_reducible (show wpList _ _ _ (⟨_, Op.store 23 _ _, _, _, _, _⟩ :: _) _ _)
         refine store_new (w := w) rfl 23 _ _ rfl w.heap.size (bs z32) rfl rfl _ _ rfl 32 (by kernel_rfl) (by rfl) (by rfl) (bs_one _) ?_))
    exact bodyPost_ret (result_row_tmp rfl _ _ w.heap.size _ _ HQ.out 32 5 (.int .i64 3) rfl rfl Tryd.underlying23 (by kernel_rfl) rfl) rfl ⟨rfl, HB.out⟩

/-! ### Answered -/
set_option maxRecDepth 20000 in
set_option maxHeartbeats 2000000 in
theorem refProof_yes (s t : SL) (sv : Bool) (w : World) (hs : s.Ok w) (ht : t.Ok w) (h1 : 1 ≤ s.len) (h2 : s.len ≤ 256) (h3 : t.len ≤ 1048576) :
    Calls Tryd.prog 20 #[.slice s.a s.len s.cap, .slice t.a t.len t.cap, .bool sv] w (ProofR s.b t.b sv w) := by
  have hA : pfA s.b t.b sv = macA (pfL s.b sv) t.b := by unfold pfA; rw [hs.hb, ht.hb, if_neg (by omega), if_neg (by omega)]
  have hE : pfE s.b t.b sv = macE (pfL s.b sv) t.b := by unfold pfE; rw [hs.hb, ht.hb, if_neg (by omega), if_neg (by omega)]
  have hM : macK (keyL nilK.b) s.b = pfM s.b := rfl
  have b0 : Below w.heap.size w (w.alloc (.cells (bs z32) 23)) := (Below.refl _ w).alloc (Nat.le_refl _) _
  have q0 : Row (w.alloc (.cells (bs z32) 23)) w.heap.size 23 (bs z32) := Row.new _ _ _
  have d1 : decide ((s.len : Int) < 1) = false := decide_eq_false (by omega)
  have d2 : decide ((256 : Int) < (s.len : Int)) = false := decide_eq_false (by omega)
  have d3 : decide ((1048576 : Int) < (t.len : Int)) = false := decide_eq_false (by omega)
  have HX := veil (refExt_slH nilK s _ (nilK_ok _) (hs.below b0) (by decide) (by omega))
  rw [hM] at HX
  have HT := veil (ht.below b0)
  have HM32 := veil (show (pfM s.b).length = 32 from macK_length _ _)
  unfold ProofR
  rw [hA, hE]
  have HB := veil b0
  have HQ := veil q0
  have hMl : (bs (pfM s.b)).size = 32 := by rw [bs_size, HM32.out]
  have hRl : (bs (macA (pfL s.b sv) t.b)).size = 32 := by rw [bs_size, macA_length]
  clear hA hE hM hs ht b0 q0 h1 h2 h3
  cases sv
  all_goals
    go_enter Tryd.func20, Tryd.ntmps20
    go_wp2_with (first
      | (with_reducible (show wpList _ _ _ (⟨_, Op.alloc 23, _, _, _, _⟩ :: _) _ _)
         refine alloc_row rfl 23 rfl (bs z32) (by kernel_rfl) ?_))
    refine HX.out.mono ?_
    rintro e1 w1 ⟨rfl, bb1⟩
    have B1 := veil (HB.out.trans (bb1.mono HB.out.size))
    have Q1 := veil (HQ.out.below bb1 HQ.out.lt)
    have T1 := veil (HT.out.below bb1)
    clear bb1 HX HB HQ HT
    obtain ⟨W2, hW2⟩ : ∃ W2, W2 = w1.alloc (.cells (bs (pfM s.b)) 23) := ⟨_, rfl⟩
    have b2 : Below w1.heap.size w1 W2 := by rw [hW2]; exact (Below.refl _ w1).alloc (Nat.le_refl _) _
    have r2 : Row W2 w1.heap.size 23 (bs (pfM s.b)) := by rw [hW2]; exact Row.new _ _ _
    have B2 := veil (B1.out.trans (b2.mono B1.out.size))
    have Q2 := veil (Q1.out.below b2 Q1.out.lt)
    have T2 := veil (T1.out.below b2)
    have K2 := veil (show (SL.mk (some ⟨w1.heap.size, 0, none⟩) 32 32 w1.heap.size 0 (pfM s.b)).Ok W2 from rowN_ok r2 HM32.out)
    have HW2 := veil hW2
    clear b2 r2 hW2 Q1 T1 B1
    go_wp2_with (first
      | (with_reducible (show wpList _ _ _ (⟨_, Op.alloc 23, _, _, _, _⟩ :: _) _ _)
         refine alloc_row rfl 23 rfl (bs z32) (by kernel_rfl) ?_)
      | (with_reducible (show wpList _ _ _ (⟨_, Op.store 23 (.tmp 8) _, _, _, _, _⟩ :: _) _ _)
         refine store_new rfl 23 _ _ rfl w1.heap.size (bs (pfM s.b)) rfl rfl _ _ rfl 32 (by kernel_rfl) (by rfl) hMl (bs_one _) ?_
         rw [← HW2.out]))
  · refine (refLab_any (SL.mk (some ⟨w1.heap.size, 0, none⟩) 32 32 w1.heap.size 0 (pfM s.b)) (nameT false) 32 W2 K2.out (nameT_size false) (by decide) (show 32 ≤ 1048576 by decide)).mono ?_
    rintro e3 w3 ⟨q, rfl, hq, hqb, bb3⟩
    have B3 := veil (B2.out.trans (bb3.mono B2.out.size))
    have Q3 := veil (Q2.out.below bb3 Q2.out.lt)
    have T3 := veil (T2.out.below bb3)
    have G3 := veil hq
    have HQB := veil (show q.b = pfL s.b false from hqb)
    clear hq hqb bb3 B2 Q2 T2 K2 HW2
    go_wp2_with fail
    refine (refMacF_any q t w3 G3.out T3.out).mono ?_
    rintro e4 w4 ⟨rfl, bb4⟩
    rw [HQB.out]
    have B4 := veil (B3.out.trans (bb4.mono B3.out.size))
    have Q4 := veil (Q3.out.below bb4 Q3.out.lt)
    clear bb4 B3 Q3 T3 G3
    go_wp2_with (first
      | (with_reducible (show wpList _ _ _ (⟨_, Op.store 23 (.tmp 6) _, _, _, _, _⟩ :: _) _ _)
         refine store_row rfl 23 _ _ rfl w.heap.size (bs (macA (pfL s.b false) t.b)) rfl rfl _ _ Q4.out 32 (by kernel_rfl) (by rfl) hRl (bs_one _) ?_))
    exact bodyPost_ret (result_row_tmp rfl _ _ w.heap.size _ _ (Q4.out.put _) 32 5 (.int .i64 (macE (pfL s.b false) t.b)) rfl rfl Tryd.underlying23 (by kernel_rfl) hRl) rfl ⟨rfl, bSetRow B4.out (Nat.le_refl _) _⟩
  · refine (refLab_any (SL.mk (some ⟨w1.heap.size, 0, none⟩) 32 32 w1.heap.size 0 (pfM s.b)) (nameT true) 32 W2 K2.out (nameT_size true) (by decide) (show 32 ≤ 1048576 by decide)).mono ?_
    rintro e3 w3 ⟨q, rfl, hq, hqb, bb3⟩
    have B3 := veil (B2.out.trans (bb3.mono B2.out.size))
    have Q3 := veil (Q2.out.below bb3 Q2.out.lt)
    have T3 := veil (T2.out.below bb3)
    have G3 := veil hq
    have HQB := veil (show q.b = pfL s.b true from hqb)
    clear hq hqb bb3 B2 Q2 T2 K2 HW2
    go_wp2_with fail
    refine (refMacF_any q t w3 G3.out T3.out).mono ?_
    rintro e4 w4 ⟨rfl, bb4⟩
    rw [HQB.out]
    have B4 := veil (B3.out.trans (bb4.mono B3.out.size))
    have Q4 := veil (Q3.out.below bb4 Q3.out.lt)
    clear bb4 B3 Q3 T3 G3
    go_wp2_with (first
      | (with_reducible (show wpList _ _ _ (⟨_, Op.store 23 (.tmp 6) _, _, _, _, _⟩ :: _) _ _)
         refine store_row rfl 23 _ _ rfl w.heap.size (bs (macA (pfL s.b true) t.b)) rfl rfl _ _ Q4.out 32 (by kernel_rfl) (by rfl) hRl (bs_one _) ?_))
    exact bodyPost_ret (result_row_tmp rfl _ _ w.heap.size _ _ (Q4.out.put _) 32 5 (.int .i64 (macE (pfL s.b true) t.b)) rfl rfl Tryd.underlying23 (by kernel_rfl) hRl) rfl ⟨rfl, bSetRow B4.out (Nat.le_refl _) _⟩
theorem refProof_any (s t : SL) (sv : Bool) (w : World) (hs : s.Ok w) (ht : t.Ok w) :
    Calls Tryd.prog 20 #[.slice s.a s.len s.cap, .slice t.a t.len t.cap, .bool sv] w (ProofR s.b t.b sv w) := by
  by_cases h : (s.len < 1 ∨ 256 < s.len) ∨ 1048576 < t.len
  · exact refProof_no s t sv w hs ht h
  · exact refProof_yes s t sv w hs ht (by omega) (by omega) (by omega)
end Go.Proofs.YtjccjlhnjihfjaaDoor
