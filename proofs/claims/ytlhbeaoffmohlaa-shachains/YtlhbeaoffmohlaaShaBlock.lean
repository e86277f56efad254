/-
  What sha.Block answers.
-/
import Derived.Test.YtlhbeaoffmohlaaShaHeld
import Derived.Test.YtlhbeaoffmohlaaShaWords
import Derived.Test.YtlhbeaoffmohlaaShaFurtherW
namespace Go.Proofs.Ytlhbeaoffmohlaa
open Go Go.RowKit

set_option maxRecDepth 20000 in
set_option maxHeartbeats 400000 in
theorem block_any (s : List Wd) (b : List By) (hs : s.length = 8) (hb : b.length = 64) (w : World) :
    Calls Try.prog 11 #[.agg (ws s), .agg (bs b)] w fun e w' => e = .returned (.agg (ws (furtherL s KW b))) ∧ Below w.heap.size w w' := by
  have HS := hide hs
  have HB := hide hb
  clear hs hb
  go_enter Try.func11, Try.ntmps11
  go_wp2
  refine held_any (S := fun W => Row W w.heap.size 31 (ws s) ∧ Row W (w.heap.size + 1) 32 (bs b) ∧ (∃ cs, cs.size = 8 ∧ Row W (w.heap.size + 1 + 1) 31 cs) ∧ Below w.heap.size w W) (by kernel_rfl)
    ⟨((Row.new _ _ _).alloc _).alloc _, (Row.new1 _ _ _ _).alloc _, ⟨ws (List.replicate 8 0), by rw [ws_size, List.length_replicate], Row.new2 _ _ _ _ _⟩, ((((Below.refl _ w).alloc (Nat.le_refl _) _).alloc (by simp) _).alloc (by simp; omega) _).drew⟩ (fun W hW => ?_)
  refine H_load 0 31 _ w.heap.size 31 (ws s) 8 30 rfl rfl rfl Try.underlying31 (by kernel_rfl) (by rw [ws_size, HS.out]) (fun W h => h.1) (by kernel_rfl) (by kernel_rfl) (by kernel_rfl) (fun _ _ _ _ h => h) rfl hW ?_
  refine H_load 2 32 _ (w.heap.size + 1) 32 (bs b) 64 5 rfl rfl rfl Try.underlying32 (by kernel_rfl) (by rw [bs_size, HB.out]) (fun W h => h.2.1) (by kernel_rfl) (by kernel_rfl) (by kernel_rfl) (fun _ _ _ _ h => h) rfl hW ?_
  refine H_call 1 18 #[] rfl (by kernel_rfl) rfl (by go_simp) ?_
  refine (cubeWords_any W).mono ?_
  rintro e1 w1 ⟨rfl, hb1⟩
  obtain ⟨h0, h1, ⟨cs, hcs, h2⟩, hbel⟩ := hW
  have k0 := h0.below hb1 h0.lt
  have k1 := h1.below hb1 h1.lt
  have k2 := h2.below hb1 h2.lt
  have kb := hbel.trans (hb1.mono hbel.size)
  refine ⟨_, rfl, ⟨k0, k1, ⟨cs, hcs, k2⟩, kb⟩, ?_⟩
  refine H_call 3 21 #[.agg (ws s), .agg (ws KW), .agg (bs b)] rfl (by kernel_rfl) rfl (by go_simp) ?_
  refine (further_any s KW b HS.out KW_length HB.out w1).mono ?_
  rintro e2 w2 ⟨rfl, hb2⟩
  have m0 := k0.below hb2 k0.lt
  have m1 := k1.below hb2 k1.lt
  have m2 := k2.below hb2 k2.lt
  have mb := kb.trans (hb2.mono kb.size)
  refine ⟨_, rfl, ⟨m0, m1, ⟨cs, hcs, m2⟩, mb⟩, ?_⟩
  refine H_store 4 31 _ _ (w.heap.size + 1 + 1) (ws (furtherL s KW b)) 31 cs 8 rfl (by kernel_rfl) rfl rfl rfl rfl m2 (by kernel_rfl) hcs (by rw [ws_size, furtherL_length]) (ws_one _) ⟨?_, ?_⟩
  · exact ⟨m0.putOther (by omega) _, m1.putOther (by omega) _, ⟨_, by rw [ws_size, furtherL_length], m2.put _⟩, bSetRow mb (by omega) _⟩
  refine wpAnyH_done (by kernel_rfl) ?_ _
  have m3 := m2.put (ws (furtherL s KW b))
  have mb3 := bSetRow mb (show w.heap.size ≤ w.heap.size + 1 + 1 by omega) (ws (furtherL s KW b))
  generalize w2.setRow (w.heap.size + 1 + 1) (ws (furtherL s KW b)) = w3 at *
  go_wp2
  refine bodyPost_ret (result_row rfl _ _ (w.heap.size + 1 + 1) _ _ m3 8 30 rfl Try.underlying31 (by kernel_rfl) (by rw [ws_size, furtherL_length])) rfl ⟨rfl, mb3⟩
end Go.Proofs.Ytlhbeaoffmohlaa
