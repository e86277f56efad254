/-
  ShaBlocks: any state, any block further, is exactly the documented one.
  For every state and every block.
-/
import Derived.Test.YtlhbeaoffmohlaaShaEq
import Derived.Test.YtlhbeaoffmohlaaShaBlock
import Derived.Test.YtlhbeaoffmohlaaShaRefBlock
import Derived.Test.YtlhbeaoffmohlaaShaLiftA
namespace Go.Proofs.Ytlhbeaoffmohlaa
open Go Go.ChangeShapes Go.WideShapes Go.ChangeAt Go.RowKit

set_option maxRecDepth 20000 in
set_option maxHeartbeats 400000 in
theorem blocks_walk (s : List Wd) (b : List By) (hs : s.length = 8) (hb : b.length = 64) (w : World) :
    Calls Try.prog 4 #[.agg (ws s), .agg (bs b)] w fun e w' => e = .returned (.bool true) ∧ Below w.heap.size w w' := by
  have HS := hide hs
  have HB := hide hb
  clear hs hb
  go_enter Try.func4, Try.ntmps4
  go_wp2
  refine held_any (S := fun W => Row W w.heap.size 31 (ws s) ∧ Row W (w.heap.size + 1) 32 (bs b) ∧ Below w.heap.size w W) (by kernel_rfl)
    ⟨(Row.new _ _ _).alloc _, Row.new1 _ _ _ _, (((Below.refl _ w).alloc (Nat.le_refl _) _).alloc (by simp) _).drew⟩ (fun W hW => ?_)
  refine H_load 0 31 _ w.heap.size 31 (ws s) 8 30 rfl rfl rfl Try.underlying31 (by kernel_rfl) (by rw [ws_size, HS.out]) (fun W h => h.1) (by kernel_rfl) (by kernel_rfl) (by kernel_rfl) (fun _ _ _ _ h => h) rfl hW ?_
  refine H_load 1 32 _ (w.heap.size + 1) 32 (bs b) 64 5 rfl rfl rfl Try.underlying32 (by kernel_rfl) (by rw [bs_size, HB.out]) (fun W h => h.2.1) (by kernel_rfl) (by kernel_rfl) (by kernel_rfl) (fun _ _ _ _ h => h) rfl hW ?_
  refine H_load 3 31 _ w.heap.size 31 (ws s) 8 30 rfl rfl rfl Try.underlying31 (by kernel_rfl) (by rw [ws_size, HS.out]) (fun W h => h.1) (by kernel_rfl) (by kernel_rfl) (by kernel_rfl) (fun _ _ _ _ h => h) rfl hW ?_
  refine H_load 4 32 _ (w.heap.size + 1) 32 (bs b) 64 5 rfl rfl rfl Try.underlying32 (by kernel_rfl) (by rw [bs_size, HB.out]) (fun W h => h.2.1) (by kernel_rfl) (by kernel_rfl) (by kernel_rfl) (fun _ _ _ _ h => h) rfl hW ?_
  go_simp
  refine H_call 2 11 #[.agg (ws s), .agg (bs b)] rfl (by kernel_rfl) rfl (by go_simp) ?_
  refine (block_any s b HS.out HB.out W).mono ?_
  rintro e1 w1 ⟨rfl, hb1⟩
  obtain ⟨h0, h1, hbel⟩ := hW
  have k0 := h0.below hb1 h0.lt
  have k1 := h1.below hb1 h1.lt
  have kb := hbel.trans (hb1.mono hbel.size)
  refine ⟨_, rfl, ⟨k0, k1, kb⟩, ?_⟩
  refine H_call 5 12 #[.agg (ws s), .agg (bs b)] rfl (by kernel_rfl) rfl (by go_simp) ?_
  refine (refBlock_any s b HS.out HB.out w1).mono ?_
  rintro e2 w2 ⟨rfl, hb2⟩
  have m0 := k0.below hb2 k0.lt
  have m1 := k1.below hb2 k1.lt
  have mb := kb.trans (hb2.mono kb.size)
  refine ⟨_, rfl, ⟨m0, m1, mb⟩, ?_⟩
  have HF := hide (furtherL_length s KW b)
  generalize furtherL s KW b = F at *
  go_simp
  refine H_value 6 (.bool true) rfl (by kernel_rfl) rfl (exec_eql_self w2 31 30 8 .u32 (.tmp 7) (.tmp 10) 31 (ws F) rfl rfl rfl Try.underlying31 Try.underlying30 (by kernel_rfl) (by kernel_rfl) (by kernel_rfl) (fun j hj => ⟨_, ws_get F j (by rw [HF.out]; exact hj)⟩)) ⟨⟨m0, m1, mb⟩, ?_⟩
  go_simp
  refine H_value 7 (.bool true) rfl (by kernel_rfl) rfl rfl ⟨⟨m0, m1, mb⟩, ?_⟩
  go_simp
  refine wpAnyH_done (by kernel_rfl) ?_ _
  go_wp2
  go_ret
  exact ⟨rfl, mb⟩

/-! ### The row -/
set_option maxRecDepth 100000 in
theorem blocks_lifted (os : Os) (started : os.Started) (H : Type) (enc : TypeId × Value → H) :
    ReturnsInHanded {} Try.checked os 4 .any (Rows.shaBlocksSpec.pre6 enc Try.prog Try.f4 Rows.shaBlocksRow.domain false)
      (Rows.shaBlocksSpec.post enc Try.prog Try.f4 false true false false) := by
  refine returnsInHanded_of_change (C := Try.checked) own started (by kernel_rfl) Try.func4
    (ChangeSpec.witness6 (enc := enc) (C := Try.checked) false ⟨#[], #[.agg (Array.replicate 8 (.int .u32 0)), .agg (Array.replicate 64 (.int .u8 0))], []⟩ 8 (by kernel_rfl) (by kernel_rfl) (by kernel_rfl) (by kernel_rfl)) ?_
  intro W base args ds gs before hval0 hW _ _
  have hval : ∀ (j : Nat) t v, Try.f4.params[j]? = some t → args[j]? = some v → Value.okWide Try.prog W .any base t v := hval0
  have hW' := hW
  obtain ⟨p, q, hA0, hV, rfl, hfz, hnd⟩ := hW
  have hA : DataW.TrodAll enc Try.prog W 0 (fun _ => true) true Try.f4.params.toList args.toList ds p := hA0
  rw [Try.params4] at hA hval
  obtain ⟨v0, vs0, d0, ds0, p0, q0, hargs, rfl, rfl, h0, r0⟩ := trodAll_cons hA
  obtain ⟨v1, vs1, d1, ds1, p1, q1, rfl, rfl, rfl, h1, r1⟩ := trodAll_cons r0
  obtain ⟨rfl, rfl, rfl⟩ := trodAll_nil r1
  obtain rfl : args = #[v0, v1] := by cases args; simp_all
  obtain ⟨rfl, rfl⟩ := trodVars_none hV
  have lt0 : ∀ x ∈ p0, x.block < W.heap.size := by obtain ⟨m, hm⟩ := h0; exact DataW.trod_lt m _ _ _ hm
  have lt1 : ∀ x ∈ p1, x.block < W.heap.size := by obtain ⟨m, hm⟩ := h1; exact DataW.trod_lt m _ _ _ hm
  obtain ⟨s, rfl, hs⟩ := open_words Try.underlying31 Try.underlying30 (by kernel_rfl) (by kernel_rfl) (hval 0 31 v0 rfl rfl) h0
  obtain ⟨b, rfl, hb⟩ := open_bytes Try.underlying32 Try.underlying5 (by kernel_rfl) (by kernel_rfl) (hval 1 32 v1 rfl rfl) h1
  clear hA0 hval0
  simp only [List.append_nil] at hW'
  refine (blocks_walk s b hs hb W).mono fun e W' ⟨he, bel⟩ => ?_
  subst he
  exact ⟨_, rfl, _, _, _, [], _, [], hW', trodAll_mk1 (shut_bool Try.underlying4 _), (trodAll_cons_mk (Below.trod laidOut (by kernel_rfl) (of_decide_eq_true (by kernel_rfl)) h0 bel lt0) (trodAll_cons_mk (Below.trod laidOut (by kernel_rfl) (of_decide_eq_true (by kernel_rfl)) h1 bel lt1) trodAll_mk0)), rfl, bel.frame _, fun h => by cases h⟩

theorem blocks_holds : Rows.ShaBlocksSaid :=
  OpenClaim.holds_of_wide 4 Try.f4 rfl rfl rfl rfl rfl rfl rfl ⟨rfl, rfl, rfl, rfl, rfl⟩ rfl rfl rfl rfl rfl (by kernel_rfl) Try.func4 (by kernel_rfl)
    (of_decide_eq_true (by kernel_rfl)) (by unfold Func.isWrapper; first | (rw [if_pos (by decide +kernel)]; kernel_rfl) | (rw [if_neg (by decide +kernel)]; exact ⟨rfl, rfl⟩))
    (fun os started H enc _ => blocks_lifted os started H enc)
#print axioms blocks_holds
end Go.Proofs.Ytlhbeaoffmohlaa
