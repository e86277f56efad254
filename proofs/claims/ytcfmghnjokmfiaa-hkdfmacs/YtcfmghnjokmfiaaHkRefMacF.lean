/-
  What the document's Mac answers.
-/
import Derived.Test.YtcfmghnjokmfiaaHkRefMac
namespace Go.Proofs.Ytcfmghnjokmfiaa
open Go Go.RowKit

set_option maxRecDepth 20000 in
set_option maxHeartbeats 1000000 in
theorem refMacF_any (k b : SL) (w : World) (hk : k.Ok w) (hb : b.Ok w) :
    Calls Try.prog 11 #[.slice k.a k.len k.cap, .slice b.a b.len b.cap] w fun e w' => e = .returned (.tuple #[.agg (bs (macA k.b b.b)), .int .i64 (macE k.b b.b)]) ∧ Below w.heap.size w w' := by
  have HK := veil hk
  have HB := veil hb
  have hkl := hk.hb
  have hbl := hb.hb
  clear hk hb
  have b0 : Below w.heap.size w (w.alloc (.cells (bs z32) 25)) := (Below.refl _ w).alloc (Nat.le_refl _) _
  have q0 : Row (w.alloc (.cells (bs z32) 25)) w.heap.size 25 (bs z32) := Row.new _ _ _
  have hlim : ¬ macFits k.b b.b → macA k.b b.b = z32 ∧ macE k.b b.b = 3 := fun h => ⟨by unfold macA; rw [if_neg h], by unfold macE; rw [if_neg h]⟩
  have HLim := veil hlim
  clear hlim
  go_enter Try.func11, Try.ntmps11
  by_cases h1 : (1048576 : Int) < (k.len : Int)
  · obtain ⟨e1, e2⟩ := HLim.out (fun h => by have := h.1; omega)
    rw [e1, e2]
    clear e1 e2
    go_wp2_with (first
      | (with_reducible (show wpList _ _ _ (⟨_, Op.alloc 25, _, _, _, _⟩ :: _) _ _)
         refine alloc_row rfl 25 rfl (bs z32) (by kernel_rfl) ?_)
      | (with_reducible (show wpList _ _ _ (⟨_, Op.build 25 _, _, _, _, _⟩ :: _) _ _)
         refine build_row rfl 25 _ rfl (bs z32) (by kernel_rfl) ?_)
      | (with_reducible (show wpList _ _ _ (⟨_, Op.store 25 _ _, _, _, _, _⟩ :: _) _ _)
         refine store_new (w := w) rfl 25 _ _ rfl w.heap.size (bs z32) rfl rfl _ _ rfl 32 (by kernel_rfl) (by rfl) (by rfl) (bs_one _) ?_))
    exact bodyPost_ret (result_row_tmp rfl _ _ w.heap.size _ _ q0 32 5 (.int .i64 3) rfl rfl Try.underlying25 (by kernel_rfl) rfl) rfl ⟨rfl, b0⟩
  · by_cases h2 : (1048512 : Int) < (b.len : Int)
    · obtain ⟨e1, e2⟩ := HLim.out (fun h => by have := h.2; omega)
      rw [e1, e2]
      clear e1 e2
      go_wp2_with (first
        | (with_reducible (show wpList _ _ _ (⟨_, Op.alloc 25, _, _, _, _⟩ :: _) _ _)
           refine alloc_row rfl 25 rfl (bs z32) (by kernel_rfl) ?_)
        | (with_reducible (show wpList _ _ _ (⟨_, Op.build 25 _, _, _, _, _⟩ :: _) _ _)
           refine build_row rfl 25 _ rfl (bs z32) (by kernel_rfl) ?_)
        | (with_reducible (show wpList _ _ _ (⟨_, Op.store 25 _ _, _, _, _, _⟩ :: _) _ _)
           refine store_new (w := w) rfl 25 _ _ rfl w.heap.size (bs z32) rfl rfl _ _ rfl 32 (by kernel_rfl) (by rfl) (by rfl) (bs_one _) ?_))
      exact bodyPost_ret (result_row_tmp rfl _ _ w.heap.size _ _ q0 32 5 (.int .i64 3) rfl rfl Try.underlying25 (by kernel_rfl) rfl) rfl ⟨rfl, b0⟩
    · have hfit : macFits k.b b.b := ⟨by omega, by omega⟩
      have e1 : macA k.b b.b = macK (keyL k.b) b.b := by unfold macA; rw [if_pos hfit]
      have e2 : macE k.b b.b = 0 := by unfold macE; rw [if_pos hfit]
      rw [e1, e2]
      clear e1 e2 hfit HLim
      go_wp2_with (with_reducible (show wpList _ _ _ (⟨_, Op.alloc 25, _, _, _, _⟩ :: _) _ _)
                   refine alloc_row rfl 25 rfl (bs z32) (by kernel_rfl) ?_)
      refine (refMac_any k b _ (HK.out.below b0) (HB.out.below b0) (by omega) (by omega)).mono ?_
      rintro e1 w1 ⟨rfl, hb1⟩
      have q1 := q0.below hb1 q0.lt
      have b1 := b0.trans (hb1.mono b0.size)
      clear hb1 q0 b0
      have hsz : (bs (macK (keyL k.b) b.b)).size = 32 := by rw [bs_size, macK_length]
      go_wp2_with (with_reducible (show wpList _ _ _ (⟨_, Op.store 25 _ _, _, _, _, _⟩ :: _) _ _)
                   refine store_row rfl 25 _ _ rfl w.heap.size (bs (macK (keyL k.b) b.b)) rfl rfl _ _ q1 32 (by kernel_rfl) (by rfl) hsz (bs_one _) ?_)
      refine bodyPost_ret (result_row_tmp rfl _ _ w.heap.size _ _ (q1.put _) 32 5 (.int .i64 0) rfl rfl Try.underlying25 (by kernel_rfl) hsz) rfl ⟨rfl, bSetRow b1 (Nat.le_refl _) _⟩
end Go.Proofs.Ytcfmghnjokmfiaa
