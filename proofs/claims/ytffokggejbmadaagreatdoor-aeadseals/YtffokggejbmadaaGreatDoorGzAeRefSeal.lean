/-
  What the document's Seal answers, at any bytes.
-/
import Derived.Test.YtffokggejbmadaaGreatDoorGzAeRefSum
import Derived.Test.YtffokggejbmadaaGreatDoorGzAeOpen
namespace Go.Proofs.YtffokggejbmadaaGreatDoor
open Go Go.RowKit

def nilR : SL := ⟨none, 0, 0, 0, 0, []⟩
theorem nilR_ok (w : World) : nilR.Ok w := ⟨rfl, Nat.le_refl _, fun _ => ⟨rfl, rfl⟩, fun h => absurd h (Nat.lt_irrefl _), fun h => absurd h (Nat.lt_irrefl _), fun _ h => absurd h (Nat.not_lt_zero _)⟩

set_option maxRecDepth 20000 in
set_option maxHeartbeats 2000000 in
theorem refSeal_any (k n p b : SL) (w : World) (hk : k.Ok w) (hn : n.Ok w) (hp : p.Ok w) (hb : b.Ok w) :
    Calls Tryz.prog 9 #[.slice k.a k.len k.cap, .slice n.a n.len n.cap, .slice p.a p.len p.cap, .slice b.a b.len b.cap] w fun e w' => ∃ q : SL, e = .returned (.tuple #[.slice q.a q.len q.cap, .int .i64 (sealE k.b n.b p.b b.b)]) ∧ q.Ok w' ∧ q.b = sealO k.b n.b p.b b.b ∧ Below w.heap.size w w' := by
  obtain ⟨i0, hi, hz0, hz1, hz2⟩ := info_parts (P := Tryz.prog) (e := 5) (z := .int .u8 0) (size := 1) (bytes := 1) (by kernel_rfl)
  have HK := veil hk
  have HN := veil hn
  have HP := veil hp
  have HB := veil hb
  clear hk hn hp hb
  go_enter Tryz.func9, Tryz.ntmps9
  by_cases h1 : k.len = 32 ∧ n.len = 12
  · have hk32 : k.b.length = 32 := by rw [HK.out.hb, h1.1]
    have hn12 : n.b.length = 12 := by rw [HN.out.hb, h1.2]
    obtain ⟨h32, h12⟩ := h1
    have d1 : ((k.len : Int) != 32) = false := by rw [h32]; rfl
    have d2 : ((n.len : Int) != 12) = false := by rw [h12]; rfl
    by_cases hbig : p.len ≤ 1048576 ∧ b.len ≤ 1048576
    · obtain ⟨hE, hO⟩ := seal_fine (k := k.b) (n := n.b) (p := p.b) (b := b.b) ⟨hk32, hn12⟩ (by rw [HP.out.hb, HB.out.hb]; exact hbig)
      have d3 : decide ((1048576 : Int) < (p.len : Int)) = false := by simp; omega
      have d4 : decide ((1048576 : Int) < (b.len : Int)) = false := by simp; omega
      have HE := veil hE
      have HO := veil hO
      have HBIG := veil hbig
      clear hE hO hbig
      go_wp2_with fail
      have hka := refkey32_any k w HK.out h32
      rw [h32] at hka
      refine hka.mono ?_
      rintro e1 w1 ⟨rfl, hb1⟩
      clear hka
      have hkz : (bs k.b).size = 32 := by rw [bs_size, hk32]
      have hnz : (bs n.b).size = 12 := by rw [bs_size, hn12]
      have b2 := hb1.alloc hb1.size (.cells (bs k.b) 49)
      have r2 : Row (w1.alloc (.cells (bs k.b) 49)) w1.heap.size 49 (bs k.b) := Row.new _ _ _
      have hs1 := hb1.size
      clear hb1
      go_wp2_with (first
        | (with_reducible (show wpList _ _ _ (⟨_, Op.alloc 49, _, _, _, _⟩ :: _) _ _)
           refine alloc_row rfl 49 rfl (bs z32b) (by kernel_rfl) ?_)
        | (with_reducible (show wpList _ _ _ (⟨_, Op.store 49 _ _, _, _, _, _⟩ :: _) _ _)
           refine store_new (w := w1) (by rfl) 49 _ _ (by rfl) w1.heap.size (bs k.b) (by rfl) (by rfl) 49 (bs z32b) (by rfl) 32 (by kernel_rfl) (by rfl) hkz (bs_one _) ?_))
      have hna := refnonce12_any n (w1.alloc (.cells (bs k.b) 49)) (HN.out.below b2) h12
      rw [h12] at hna
      refine hna.mono ?_
      rintro e3 w3 ⟨rfl, hb3⟩
      clear hna
      have b3 := b2.trans (hb3.mono b2.size)
      have r3 := r2.below hb3 r2.lt
      have hl3 := r3.lt
      have b4 := b3.alloc b3.size (.cells (bs n.b) 50)
      have r4 := r3.alloc (.cells (bs n.b) 50)
      have s4 : Row (w3.alloc (.cells (bs n.b) 50)) w3.heap.size 50 (bs n.b) := Row.new _ _ _
      clear b2 r2 b3 r3 hb3
      go_wp2_with (first
        | (with_reducible (show wpList _ _ _ (⟨_, Op.alloc 50, _, _, _, _⟩ :: _) _ _)
           refine alloc_row rfl 50 rfl (bs z12) (by kernel_rfl) ?_)
        | (with_reducible (show wpList _ _ _ (⟨_, Op.store 50 _ _, _, _, _, _⟩ :: _) _ _)
           refine store_new (w := w3) (by rfl) 50 _ _ (by rfl) w3.heap.size (bs n.b) (by rfl) (by rfl) 50 (bs z12) (by rfl) 12 (by kernel_rfl) (by rfl) hnz (bs_one _) ?_)
        | (with_reducible (show wpList _ _ _ (⟨_, Op.load 49 _, _, _, _, _⟩ :: _) _ _)
           refine load_row rfl 49 _ rfl w1.heap.size rfl _ _ r4 32 5 Tryz.underlying49 (by kernel_rfl) hkz ?_)
        | (with_reducible (show wpList _ _ _ (⟨_, Op.load 50 _, _, _, _, _⟩ :: _) _ _)
           refine load_row rfl 50 _ rfl w3.heap.size rfl _ _ s4 12 5 Tryz.underlying50 (by kernel_rfl) hnz ?_))
      refine (refXor_ok k.b 1 n.b hk32 hn12 p _ (HP.out.below b4) (by unfold Great; rw [u_one]; have := HBIG.out.1; omega)).mono ?_
      rintro e5 w5 ⟨v5, rfl, own5, hb5⟩
      obtain ⟨a5, c5, rfl⟩ := own_shape own5
      have b5 := b4.trans (hb5.mono b4.size)
      have r5 := r4.below hb5 r4.lt
      have s5 := s4.below hb5 s4.lt
      have hxl : (xorL k.b 1 n.b p.b).length = p.len := by rw [xorL_length, HP.out.hb]
      obtain ⟨X, hX⟩ : ∃ X, X = xorL k.b 1 n.b p.b := ⟨_, rfl⟩
      rw [← hX] at own5 hxl
      have HXX := veil hX
      have HO5 := veil own5
      have HB5 := veil b5
      have hs4 := b4.size
      have hs5 := b5.size
      obtain ⟨sx, hvx, hlx, hbx, hokx⟩ := own_slR own5
      have HVX := veil hvx
      have HOKX := veil hokx
      clear hX own5 hb5 b5 b4 r4 s4 hvx hokx
      go_wp2_with (first
        | (with_reducible (show wpList _ _ _ (⟨_, Op.load 49 _, _, _, _, _⟩ :: _) _ _)
           refine load_row rfl 49 _ rfl w1.heap.size rfl _ _ r5 32 5 Tryz.underlying49 (by kernel_rfl) hkz ?_)
        | (with_reducible (show wpList _ _ _ (⟨_, Op.load 50 _, _, _, _, _⟩ :: _) _ _)
           refine load_row rfl 50 _ rfl w3.heap.size rfl _ _ s5 12 5 Tryz.underlying50 (by kernel_rfl) hnz ?_))
      have hsum := refSum_any k.b n.b hk32 hn12 sx b w5 HOKX.out (HB.out.below HB5.out) (by rw [hlx]; exact HBIG.out.1) HBIG.out.2
      rw [← HVX.out, hbx] at hsum
      refine hsum.mono ?_
      rintro e6 w6 ⟨rfl, hb6⟩
      have hml := markL_length k.b n.b X b.b
      obtain ⟨M, hM⟩ : ∃ M, M = markL k.b n.b X b.b := ⟨_, rfl⟩
      rw [← hM] at hml ⊢
      have HM := veil hM
      have hmz : (bs M).size = 16 := by rw [bs_size, hml]
      have own6 := own_low (own_below HO5.out hb6) hs4
      have b6 := HB5.out.trans (hb6.mono hs5)
      have b7 := b6.alloc b6.size (.cells (bs M) 55)
      have r7 : Row (w6.alloc (.cells (bs M) 55)) w6.heap.size 55 (bs M) := Row.new _ _ _
      have HO7 := veil (own6.alloc (.cells (bs M) 55))
      have HB7 := veil b7
      have hs7 := b7.size
      clear hsum hM hb6 own6 b6 b7 r5 s5 hlx hbx
      go_wp2_with (first
        | (with_reducible (show wpList _ _ _ (⟨_, Op.alloc 55, _, _, _, _⟩ :: _) _ _)
           refine alloc_row rfl 55 rfl (bs z16) (by kernel_rfl) ?_)
        | (with_reducible (show wpList _ _ _ (⟨_, Op.store 55 _ _, _, _, _, _⟩ :: _) _ _)
           refine store_new (w := w6) (by rfl) 55 _ _ (by rfl) w6.heap.size (bs M) (by rfl) (by rfl) 55 (bs z16) (by rfl) 16 (by kernel_rfl) (by rfl) hmz (bs_one _) ?_)
        | (with_reducible (show wpList _ _ _ (⟨some 49, Op.call _, _, _, _, _⟩ :: _) _ _)
           refine append_sl rfl _ _ 22 rfl w.heap.size i0 Tryz.underlying22 hi hz0 hz1 hz2 _ p.len X rfl HO7.out (rowN w6.heap.size 16 M) (rowN_ok r7 hml) rfl (by have := HBIG.out.1; show p.len + 16 ≤ 8388608; omega) hs7 ?_
           intro v8' w8 hown8 hgrow8))
      have b8 := HB7.out.grown hgrow8 hs7 (fun z e => (HO7.out.lt z e).1)
      obtain ⟨q, hqv, _, hqb, hqok⟩ := own_slR hown8
      have e8 : q.b = sealL k.b n.b p.b b.b := by rw [hqb, HXX.out]; show _ ++ M = _; rw [HM.out, HXX.out]; rfl
      have HQV := veil hqv
      clear hown8 hgrow8 hqv hqb
      go_wp2_with fail
      go_ret2
      rw [HE.out, HO.out]
      exact ⟨q, by rw [HQV.out]; rfl, hqok, e8, b8⟩
    · obtain ⟨hE, hO⟩ := seal_limit (k := k.b) (n := n.b) (p := p.b) (b := b.b) ⟨hk32, hn12⟩ (by rw [HP.out.hb, HB.out.hb]; exact hbig)
      have HE := veil hE
      have HO := veil hO
      clear hE hO
      by_cases h1 : p.len ≤ 1048576
      · have d3 : decide ((1048576 : Int) < (p.len : Int)) = false := by simp; omega
        have d4 : decide ((1048576 : Int) < (b.len : Int)) = true := by simp; omega
        go_wp2_with fail
        go_ret2
        rw [HE.out, HO.out]
        exact ⟨nilR, rfl, nilR_ok _, rfl, Below.refl _ _⟩
      · have d3 : decide ((1048576 : Int) < (p.len : Int)) = true := by simp; omega
        go_wp2_with fail
        go_ret2
        rw [HE.out, HO.out]
        exact ⟨nilR, rfl, nilR_ok _, rfl, Below.refl _ _⟩
  · obtain ⟨hE, hO⟩ := seal_arg (k := k.b) (n := n.b) (p := p.b) (b := b.b) (by rw [HK.out.hb, HN.out.hb]; exact h1)
    have HE := veil hE
    have HO := veil hO
    clear hE hO
    by_cases h2 : k.len = 32
    · have d1 : ((k.len : Int) != 32) = false := by rw [h2]; rfl
      have d2 : ((n.len : Int) != 12) = true := by simp; omega
      go_wp2_with fail
      go_ret2
      rw [HE.out, HO.out]
      exact ⟨nilR, rfl, nilR_ok _, rfl, Below.refl _ _⟩
    · have d1 : ((k.len : Int) != 32) = true := by simp; omega
      go_wp2_with fail
      go_ret2
      rw [HE.out, HO.out]
      exact ⟨nilR, rfl, nilR_ok _, rfl, Below.refl _ _⟩
end Go.Proofs.YtffokggejbmadaaGreatDoor
