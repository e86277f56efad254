/-
  ChachaBlocks' walk.
-/
import Derived.Test.YtcdmnbmniiblgaaDoorChaBlock
import Derived.Test.YtcdmnbmniiblgaaDoorChaRefBlock
import Derived.Test.YtcdmnbmniiblgaaDoorChaFrom
namespace Go.Proofs.YtcdmnbmniiblgaaDoor
open Go Go.RowKit

set_option maxRecDepth 20000 in
set_option maxHeartbeats 1000000 in
theorem blocks_walk (key : List By) (count : Wd) (nonce : List By) (hk : key.length = 32) (hn : nonce.length = 12) (w : World) (hg : Glob w) :
    Calls Tryd.prog 3 #[.agg (fromC key count nonce)] w fun e w' => e = .returned (.bool true) ∧ Below w.heap.size w w' := by
  have HK : Hid (key.length = 32) := hk
  have HN : Hid (nonce.length = 12) := hn
  have HG : Hid (Glob w) := hg
  clear hk hn hg
  have HC : Hid ((fromC key count nonce).size = 45) := show _ = _ from fromC_size key count nonce HK.out HN.out
  go_enter Tryd.func3, Tryd.ntmps3
  go_wp2
  refine held_any (S := fun W => Row W w.heap.size 26 (fromC key count nonce) ∧ Below w.heap.size w W) (by kernel_rfl)
    ⟨Row.new _ _ _, ((Below.refl _ w).alloc (Nat.le_refl _) _).drew⟩ (fun W hW => ?_)
  refine wpAnyH_take (i := 0) (v := .pointer (some ⟨w.heap.size, 0, none⟩)) rfl (by kernel_rfl) (by kernel_rfl) (by kernel_rfl) (fun _ _ _ h => h) (.inl ⟨by kernel_rfl, fun W h => by kernel_rfl⟩) hW ?_
  refine wpAnyH_take (i := 1) (v := .agg (bs key)) rfl (by kernel_rfl) (by kernel_rfl) (by kernel_rfl) (fun _ _ _ h => h) (.inl ⟨by kernel_rfl, fun W h => run_mid 22 _ w.heap.size 0 (bs key) _ rfl (by kernel_rfl) Tryd.underlying22 rfl (by rw [bs_size, HK.out]; kernel_rfl) W (from_key h.1)⟩) hW ?_
  refine wpAnyH_take (i := 2) (v := .pointer (some ⟨w.heap.size, 32, none⟩)) rfl (by kernel_rfl) (by kernel_rfl) (by kernel_rfl) (fun _ _ _ h => h) (.inl ⟨by kernel_rfl, fun W h => by kernel_rfl⟩) hW ?_
  refine wpAnyH_take (i := 3) (v := .int .u32 (u count)) rfl (by kernel_rfl) (by kernel_rfl) (by kernel_rfl) (fun _ _ _ h => h) (.inl ⟨by kernel_rfl, fun W h => run_cell 23 _ ⟨w.heap.size, 32, none⟩ _ _ rfl (by kernel_rfl) Tryd.underlying23 rfl W (from_count h.1 HK.out)⟩) hW ?_
  refine wpAnyH_take (i := 4) (v := .pointer (some ⟨w.heap.size, 33, none⟩)) rfl (by kernel_rfl) (by kernel_rfl) (by kernel_rfl) (fun _ _ _ h => h) (.inl ⟨by kernel_rfl, fun W h => by kernel_rfl⟩) hW ?_
  refine wpAnyH_take (i := 5) (v := .agg (bs nonce)) rfl (by kernel_rfl) (by kernel_rfl) (by kernel_rfl) (fun _ _ _ h => h) (.inl ⟨by kernel_rfl, fun W h => run_mid 24 _ w.heap.size 33 (bs nonce) _ rfl (by kernel_rfl) Tryd.underlying24 rfl (by rw [bs_size, HN.out]; kernel_rfl) W (from_nonce h.1 HK.out)⟩) hW ?_
  refine wpAnyH_take (i := 7) (v := .pointer (some ⟨w.heap.size, 0, none⟩)) rfl (by kernel_rfl) (by kernel_rfl) (by kernel_rfl) (fun _ _ _ h => h) (.inl ⟨by kernel_rfl, fun W h => by kernel_rfl⟩) hW ?_
  refine wpAnyH_take (i := 8) (v := .agg (bs key)) rfl (by kernel_rfl) (by kernel_rfl) (by kernel_rfl) (fun _ _ _ h => h) (.inl ⟨by kernel_rfl, fun W h => run_mid 22 _ w.heap.size 0 (bs key) _ rfl (by kernel_rfl) Tryd.underlying22 rfl (by rw [bs_size, HK.out]; kernel_rfl) W (from_key h.1)⟩) hW ?_
  refine wpAnyH_take (i := 9) (v := .pointer (some ⟨w.heap.size, 32, none⟩)) rfl (by kernel_rfl) (by kernel_rfl) (by kernel_rfl) (fun _ _ _ h => h) (.inl ⟨by kernel_rfl, fun W h => by kernel_rfl⟩) hW ?_
  refine wpAnyH_take (i := 10) (v := .int .u32 (u count)) rfl (by kernel_rfl) (by kernel_rfl) (by kernel_rfl) (fun _ _ _ h => h) (.inl ⟨by kernel_rfl, fun W h => run_cell 23 _ ⟨w.heap.size, 32, none⟩ _ _ rfl (by kernel_rfl) Tryd.underlying23 rfl W (from_count h.1 HK.out)⟩) hW ?_
  refine wpAnyH_take (i := 11) (v := .pointer (some ⟨w.heap.size, 33, none⟩)) rfl (by kernel_rfl) (by kernel_rfl) (by kernel_rfl) (fun _ _ _ h => h) (.inl ⟨by kernel_rfl, fun W h => by kernel_rfl⟩) hW ?_
  refine wpAnyH_take (i := 12) (v := .agg (bs nonce)) rfl (by kernel_rfl) (by kernel_rfl) (by kernel_rfl) (fun _ _ _ h => h) (.inl ⟨by kernel_rfl, fun W h => run_mid 24 _ w.heap.size 33 (bs nonce) _ rfl (by kernel_rfl) Tryd.underlying24 rfl (by rw [bs_size, HN.out]; kernel_rfl) W (from_nonce h.1 HK.out)⟩) hW ?_
  refine H_call 6 7 #[.agg (bs key), .int .u32 (u count), .agg (bs nonce)] rfl (by kernel_rfl) (by kernel_rfl) (by kernel_rfl) ?_
  refine (block_any key count nonce HK.out HN.out W (HG.out.below hW.2 (Nat.le_refl _))).mono ?_
  rintro e1 w1 ⟨rfl, hb1⟩
  obtain ⟨h0, hbel⟩ := hW
  have k0 := h0.below hb1 h0.lt
  have kb := hbel.trans (hb1.mono hbel.size)
  refine ⟨_, rfl, ⟨k0, kb⟩, ?_⟩
  refine H_call 13 8 #[.agg (bs key), .int .u32 (u count), .agg (bs nonce)] rfl (by kernel_rfl) (by kernel_rfl) (by kernel_rfl) ?_
  refine (refBlock_any key count nonce HK.out HN.out w1).mono ?_
  rintro e2 w2 ⟨rfl, hb2⟩
  have m0 := k0.below hb2 k0.lt
  have mb := kb.trans (hb2.mono kb.size)
  refine ⟨_, rfl, ⟨m0, mb⟩, ?_⟩
  have HF : Hid ((blockL key count nonce).length = 64) := show _ = _ from blockL_length _ _ _
  generalize blockL key count nonce = F at *
  go_simp
  refine H_value 14 (.bool true) rfl (by kernel_rfl) (by kernel_rfl) (exec_eql_self w2 27 5 64 .u8 (.tmp 9) (.tmp 16) 27 (bs F) rfl (by kernel_rfl) (by kernel_rfl) Tryd.underlying27 Tryd.underlying5 (by kernel_rfl) (by kernel_rfl) (by kernel_rfl) (fun j hj => ⟨_, bs_get F j (by rw [HF.out]; exact hj)⟩)) ⟨⟨m0, mb⟩, ?_⟩
  go_simp
  refine H_value 15 (.bool true) rfl (by kernel_rfl) (by kernel_rfl) (by kernel_rfl) ⟨⟨m0, mb⟩, ?_⟩
  go_simp
  refine wpAnyH_done (by kernel_rfl) ?_ _
  go_wp2
  go_ret
  exact ⟨rfl, mb⟩
end Go.Proofs.YtcdmnbmniiblgaaDoor
