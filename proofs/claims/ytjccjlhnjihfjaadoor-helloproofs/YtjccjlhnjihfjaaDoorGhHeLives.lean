/-
  The chapter's greetings.
-/
import Derived.Test.YtjccjlhnjihfjaaDoorGhHeGet
namespace Go.Proofs.YtjccjlhnjihfjaaDoor
open Go Go.RowKit

def pf7 : List By := 7 :: List.replicate 31 0
def hF : He.H := ⟨3, He.zs, He.z4, pf7⟩
def hN : He.H := ⟨1, He.zs, He.z4, pf7⟩
theorem hF_fine : hF.Fine := ⟨rfl, rfl⟩
theorem hN_fine : hN.Fine := ⟨rfl, rfl⟩
theorem hF_may : hF.may := ⟨rfl, by decide, by decide⟩
theorem hN_not : ¬ hN.may := fun h => absurd h.2.1 (by decide)
theorem hF_bytes : hF.bytes = 3 :: pf7 := rfl
theorem hF_put : He.putO hF = 3 :: pf7 ∧ He.putE hF = 0 := ⟨by unfold He.putO; rw [if_pos hF_may]; rfl, by unfold He.putE; rw [if_pos hF_may]⟩
theorem hN_put : He.putO hN = [] ∧ He.putE hN = 1 := ⟨by unfold He.putO; rw [if_neg hN_not], by unfold He.putE; rw [if_neg hN_not]⟩
theorem got_cut : He.got ((3 :: pf7).take 32) = (He.H0, 0, 4) := by
  have h := He.got_put hF_may hF_fine []
  rw [List.append_nil, hF_bytes] at h
  have h2 := (He.got_done h).2.2.2.2 32 (by decide)
  have h3 := He.got_err (b := (3 :: pf7).take 32) (by rw [h2]; decide)
  rw [h2] at h3
  exact h3
theorem GetR.val {b : List By} {w w' : World} {e : Ending} {x : He.H} {n E : Nat} (h : GetR b w e w') (hg : He.got b = (x, n, E)) : e = .returned (.tuple #[.agg (heC x), .int .i64 (n : Int), .int .i64 (E : Int)]) ∧ Below w.heap.size w w' := by
  unfold GetR at h
  rw [hg] at h
  exact h
theorem got_four : He.got [4] = (He.H0, 0, 5) := by
  unfold He.got
  simp only
  rw [if_pos (by decide)]

set_option maxRecDepth 20000 in
set_option maxHeartbeats 2000000 in
theorem lives_any (w : World) (hL : Lens w) :
    Calls Tryd.prog 14 #[] w fun e w' => e = .returned (.bool true) ∧ Below w.heap.size w w' := by
  have h37 : (heC (heK 3#8))[37]? = some (.int .u8 0) := by kernel_rfl
  have hset : (heC (heK 3#8)).setIfInBounds 37 (.int .u8 7) = heC hF := by kernel_rfl
  have r1 : Row (w.alloc (.cells (heC hF) 27)) w.heap.size 27 (heC hF) := Row.new _ _ _
  go_enter Tryd.func14, Tryd.ntmps14
  go_wp2_with (first
    | (with_reducible (show wpList _ _ _ (⟨some 12, Op.build 27 _, _, _, _, _⟩ :: _) _ _)
       refine build_row rfl 27 _ rfl (heC (heK 3#8)) (by kernel_rfl) ?_)
    | (with_reducible (show wpList _ _ _ (⟨_, Op.store 27 (.tmp 1) _, _, _, _, _⟩ :: _) _ _)
       refine store_new rfl 27 _ _ rfl w.heap.size (heC (heK 3#8)) rfl rfl _ _ rfl 69 (by kernel_rfl) (by kernel_rfl) (heC_size (heK_fine _)) (he_one _) ?_)
    | (with_reducible (show wpList _ _ _ (⟨some 16, Op.load 27 _, _, _, _, _⟩ :: _) _ _)
       try rw [hset]
       refine load_strL rfl 27 _ rfl w.heap.size rfl _ _ r1 69 _ Tryd.underlying27 (by kernel_rfl) (heC_size hF_fine) ?_))
  obtain ⟨W0, hW0⟩ : ∃ W0, W0 = w.alloc (.cells (heC hF) 27) := ⟨_, rfl⟩
  rw [← hW0]
  rw [← hW0] at r1
  have b0 : Below w.heap.size w W0 := by rw [hW0]; exact (Below.refl _ w).alloc (Nat.le_refl _) _
  have R1 := veil r1
  have B0 := veil b0
  have HL := veil hL
  have hlt := r1.lt
  clear hW0 r1 b0 hL h37 hset
  refine (put_any hF hF_fine W0 (HL.out.step B0.out)).mono ?_
  rintro e2 w2 ⟨a2, c2, rfl, o2, bb2⟩
  rw [hF_put.1] at o2 ⊢
  rw [hF_put.2]
  have hn : (3 :: pf7 : List By).length = 33 := rfl
  rw [hn] at o2 ⊢
  rcases o2.2 with ⟨_, h0⟩ | ⟨g2, cap2, cur2, heq, _⟩
  · cases h0
  have ha2 : a2 = some ⟨g2, 0, none⟩ ∧ c2 = cap2 := by injection heq with h1 h2 h3; exact ⟨h1, h3⟩
  obtain ⟨rfl, rfl⟩ := ha2
  clear heq
  have OK2 := veil (lit_sl o2)
  have B2 := veil (B0.out.trans (bb2.mono B0.out.size))
  have R2 := veil (R1.out.below bb2 hlt)
  have hc2 : 33 ≤ c2 := OK2.out.hcap
  have hlt2 : w.heap.size < w2.heap.size := R2.out.lt
  clear o2 bb2 R1 B0
  have HGC := veil got_cut
  have k32 : (32 : Int) ≤ (c2 : Int) := by omega
  have k32' : decide ((32 : Int) ≤ (c2 : Int)) = true := decide_eq_true k32
  go_wp2_with fail
  refine (heGet_any (headF (SL.mk (some ⟨g2, 0, none⟩) 33 c2 g2 0 (3 :: pf7)) 32) w2 (headF_ok OK2.out 32 (show 32 ≤ 33 by decide)) (show 32 ≤ 140737488355328 by decide) (HL.out.step B2.out)).mono ?_
  rintro e3 w3 h3
  obtain ⟨rfl, bb3⟩ := h3.val got_cut
  have B3 := veil (B2.out.trans (bb3.mono B2.out.size))
  have R3 := veil (R2.out.below bb3 hlt2)
  have OK3 := veil (OK2.out.below bb3)
  have hlt3 := R3.out.lt
  clear R2 OK2 B2 bb3 h3
  go_wp2_with (first
    | (with_reducible (show wpList _ _ _ (⟨_, Op.store 27 (.tmp 4) _, _, _, _, _⟩ :: _) _ _)
       refine store_new rfl 27 _ _ rfl w3.heap.size (heC He.H0) rfl rfl _ _ rfl 69 (by kernel_rfl) (by kernel_rfl) (heC_size H0_fine) (he_one _) ?_))
  obtain ⟨W4, hW4⟩ : ∃ W4, W4 = (w3.alloc (.cells (heC He.H0) 27)).alloc (.cells #[.int .u8 4] 5) := ⟨_, rfl⟩
  show Calls _ _ _ ((w3.alloc (.cells (heC He.H0) 27)).alloc (.cells #[.int .u8 4] 5)) _
  rw [← hW4]
  have b4 : Below w3.heap.size w3 W4 := by rw [hW4]; exact ((Below.refl _ w3).alloc (Nat.le_refl _) _).alloc (by simp) _
  have l4 : (rowS (w3.heap.size + 1) [4]).Ok W4 := by rw [hW4]; exact rowS_ok (t := 5) (Row.new1 w3 _ _ _)
  have B4 := veil (B3.out.trans (b4.mono B3.out.size))
  have R4 := veil (R3.out.below b4 hlt3)
  have OK4 := veil (OK3.out.below b4)
  have L4 := veil l4
  have hlt4 := R4.out.lt
  clear R3 OK3 B3 b4 l4 hW4
  refine (heGet_any (rowS (w3.heap.size + 1) [4]) W4 L4.out (show 1 ≤ 140737488355328 by decide) (HL.out.step B4.out)).mono ?_
  rintro e5 w5 h5
  obtain ⟨rfl, bb5⟩ := h5.val got_four
  have B5 := veil (B4.out.trans (bb5.mono B4.out.size))
  have R5 := veil (R4.out.below bb5 hlt4)
  have OK5 := veil (OK4.out.below bb5)
  have hlt5 := R5.out.lt
  clear R4 OK4 B4 L4 bb5 h5
  obtain ⟨W6, hW6⟩ : ∃ W6, W6 = w5.alloc (.cells (heC He.H0) 27) := ⟨_, rfl⟩
  have b6 : Below w5.heap.size w5 W6 := by rw [hW6]; exact (Below.refl _ w5).alloc (Nat.le_refl _) _
  have B6 := veil (B5.out.trans (b6.mono B5.out.size))
  have R6 := veil (R5.out.below b6 hlt5)
  have OK6 := veil (OK5.out.below b6)
  have hlt6 := R6.out.lt
  have RG6 := veil (R6.out.rangeH 37 (vb pf7) (heC_pf (x := hF) rfl))
  rw [hW6] at RG6
  go_wp2_with (first
    | (with_reducible (show wpList _ _ _ (⟨_, Op.store 27 (.tmp 7) _, _, _, _, _⟩ :: _) _ _)
       refine store_new rfl 27 _ _ rfl w5.heap.size (heC He.H0) rfl rfl _ _ rfl 69 (by kernel_rfl) (by kernel_rfl) (heC_size H0_fine) (he_one _) ?_)
    | (with_reducible (show wpList _ _ _ (⟨_, Op.load 23 _, _, _, _, _⟩ :: _) _ _)
       refine wpList_load_mid rfl 23 _ rfl w.heap.size 37 rfl (vb pf7) _ RG6.out Tryd.underlying23 rfl (by kernel_rfl) ?_)
    | (with_reducible (show wpList _ _ _ (⟨some 39, Op.build 27 _, _, _, _, _⟩ :: _) _ _)
       refine build_row rfl 27 _ rfl (heC hN) (by kernel_rfl) ?_))
  show Calls _ _ _ (w5.alloc (.cells (heC He.H0) 27)) _
  rw [← hW6]
  clear hW6 RG6 B5 R5 OK5 b6
  refine (put_any hN hN_fine W6 (HL.out.step B6.out)).mono ?_
  rintro e7 w7 ⟨a7, c7, rfl, _, bb7⟩
  rw [hN_put.1, hN_put.2]
  have B7 := veil (B6.out.trans (bb7.mono B6.out.size))
  have OK7 := veil (OK6.out.below bb7)
  have c0 : w7.cell? ⟨g2, 0, none⟩ = some (.int .u8 3) := OK7.out.cell 0 (show 0 < 33 by decide)
  have c1 : w7.cell? ⟨g2, 1, none⟩ = some (.int .u8 7) := OK7.out.cell 1 (show 1 < 33 by decide)
  clear B6 R6 OK6 bb7 OK7
  go_wp2_with fail
  go_ret
  exact ⟨rfl, B7.out⟩
end Go.Proofs.YtjccjlhnjihfjaaDoor
