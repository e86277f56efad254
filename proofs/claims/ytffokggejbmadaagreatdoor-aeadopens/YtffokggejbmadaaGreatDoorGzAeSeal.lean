/-
  What aead.Seal answers, at any bytes.
-/
import Derived.Test.YtffokggejbmadaaGreatDoorGzAeTag
import Derived.Test.YtffokggejbmadaaGreatDoorGzAeLockOf
namespace Go.Proofs.YtffokggejbmadaaGreatDoor
open Go Go.RowKit

/-- What Seal answers: its error; its bytes. -/
def sealE (k n p b : List By) : Int := if k.length = 32 ∧ n.length = 12 then (if p.length ≤ 1048576 ∧ b.length ≤ 1048576 then 0 else 3) else 1
def sealO (k n p b : List By) : List By := if sealE k n p b = 0 then sealL k n p b else []
theorem seal_arg {k n p b : List By} (h : ¬ (k.length = 32 ∧ n.length = 12)) : sealE k n p b = 1 ∧ sealO k n p b = [] := by
  have e : sealE k n p b = 1 := by unfold sealE; rw [if_neg h]
  exact ⟨e, by unfold sealO; rw [e]; rfl⟩
theorem seal_limit {k n p b : List By} (h : k.length = 32 ∧ n.length = 12) (h2 : ¬ (p.length ≤ 1048576 ∧ b.length ≤ 1048576)) : sealE k n p b = 3 ∧ sealO k n p b = [] := by
  have e : sealE k n p b = 3 := by unfold sealE; rw [if_pos h, if_neg h2]
  exact ⟨e, by unfold sealO; rw [e]; rfl⟩
theorem seal_fine {k n p b : List By} (h : k.length = 32 ∧ n.length = 12) (h2 : p.length ≤ 1048576 ∧ b.length ≤ 1048576) : sealE k n p b = 0 ∧ sealO k n p b = sealL k n p b := by
  have e : sealE k n p b = 0 := by unfold sealE; rw [if_pos h, if_pos h2]
  exact ⟨e, by unfold sealO; rw [e]; rfl⟩

set_option maxRecDepth 20000 in
set_option maxHeartbeats 4000000 in
theorem seal_any (k n p b : SL) (w : World) (hg : Glob w) (hk : k.Ok w) (hn : n.Ok w) (hp : p.Ok w) (hb : b.Ok w) :
    Calls Tryz.prog 8 #[.slice k.a k.len k.cap, .slice n.a n.len n.cap, .slice p.a p.len p.cap, .slice b.a b.len b.cap] w fun e w' => ∃ a c, e = .returned (.tuple #[.slice a (sealO k.b n.b p.b b.b).length c, .int .i64 (sealE k.b n.b p.b b.b)]) ∧ w'.ownsRow w.heap.size 5 1 (.slice a (sealO k.b n.b p.b b.b).length c) (sealO k.b n.b p.b b.b).length (vb (sealO k.b n.b p.b b.b)) ∧ Below w.heap.size w w' := by
  obtain ⟨i0, hi, hz0, hz1, hz2⟩ := info_parts (P := Tryz.prog) (e := 5) (z := .int .u8 0) (size := 1) (bytes := 1) (by kernel_rfl)
  have HG := veil hg
  have HK := veil hk
  have HN := veil hn
  have HP := veil hp
  have HB := veil hb
  clear hg hk hn hp hb
  go_enter Tryz.func8, Tryz.ntmps8
  go_wp2_with fail
  refine (lockOf_any k n w HK.out HN.out).mono ?_
  rintro e1 w1 ⟨hb1, ⟨h32, h12, rfl⟩ | ⟨hno, rfl⟩⟩
  · have hk32 : k.b.length = 32 := by rw [HK.out.hb, h32]
    have hn12 : n.b.length = 12 := by rw [HN.out.hb, h12]
    have hz44 : (bs (k.b ++ n.b)).size = 44 := by rw [bs_size, List.length_append, hk32, hn12]
    have b2 := hb1.alloc hb1.size (.cells (bs (k.b ++ n.b)) 52)
    have r2 : Row (w1.alloc (.cells (bs (k.b ++ n.b)) 52)) w1.heap.size 52 (bs (k.b ++ n.b)) := Row.new _ _ _
    have hs1 := hb1.size
    clear hb1
    by_cases hbig : p.len ≤ 1048576 ∧ b.len ≤ 1048576
    · obtain ⟨hE, hO⟩ := seal_fine (k := k.b) (n := n.b) (p := p.b) (b := b.b) ⟨hk32, hn12⟩ (by rw [HP.out.hb, HB.out.hb]; exact hbig)
      have d1 : decide ((1048576 : Int) < (p.len : Int)) = false := by simp; omega
      have d2 : decide ((1048576 : Int) < (b.len : Int)) = false := by simp; omega
      obtain ⟨hpl, hbl⟩ := hbig
      have HE := veil hE
      have HO := veil hO
      clear hE hO
      go_wp2_with (first
        | (with_reducible (show wpList _ _ _ (⟨_, Op.alloc 52, _, _, _, _⟩ :: _) _ _)
           refine alloc_row rfl 52 rfl (bs z44) (by kernel_rfl) ?_)
        | (with_reducible (show wpList _ _ _ (⟨_, Op.store 52 _ _, _, _, _, _⟩ :: _) _ _)
           refine store_new (w := w1) (by rfl) 52 _ _ (by rfl) w1.heap.size (bs (k.b ++ n.b)) (by rfl) (by rfl) 52 (bs z44) (by rfl) 44 (by kernel_rfl) (by rfl) hz44 (bs_one _) ?_)
        | (with_reducible (show wpList _ _ _ (⟨_, Op.load 52 _, _, _, _, _⟩ :: _) _ _)
           refine load_part6 rfl 52 _ rfl w1.heap.size 0 rfl (bs (k.b ++ n.b)) _ Tryz.underlying52 rfl 44 (by kernel_rfl) hz44 (lock_whole r2) ?_))
      refine (taken_any k.b n.b hk32 hn12 p _ (HG.out.below b2 (Nat.le_refl _)) (HP.out.below b2) hpl).mono ?_
      rintro e3 w3 ⟨g, rfl, hown, hb3⟩
      have b3 := b2.trans (hb3.mono b2.size)
      have r3 := r2.below hb3 r2.lt
      have hs2 := b2.size
      have hs3 := b3.size
      have HO3 := veil hown
      have HB3 := veil b3
      have HOK := veil (own_ok6 hown)
      clear hown hb3 b2 r2 b3
      have hxl : (xorL k.b 1 n.b p.b).length = p.len := by rw [xorL_length, HP.out.hb]
      obtain ⟨X, hX⟩ : ∃ X, X = xorL k.b 1 n.b p.b := ⟨_, rfl⟩
      rw [← hX] at HO3 HOK hxl
      have HXX := veil hX
      clear hX
      go_wp2_with (first
        | (with_reducible (show wpList _ _ _ (⟨_, Op.load 52 _, _, _, _, _⟩ :: _) _ _)
           refine load_part6 rfl 52 _ rfl w1.heap.size 0 rfl (bs (k.b ++ n.b)) _ Tryz.underlying52 rfl 44 (by kernel_rfl) hz44 (lock_whole r3) ?_))
      refine (lockTag_any k.b n.b hk32 hn12 ⟨some ⟨g, 0, none⟩, p.len, p.len, g, 0, X⟩ b w3 (HG.out.below HB3.out (Nat.le_refl _)) HOK.out (HB.out.below HB3.out) hpl hbl).mono ?_
      rintro e4 w4 ⟨rfl, hb4⟩
      simp only []
      have b4 := HB3.out.trans (hb4.mono hs3)
      have HO4 := veil (own_low (own_below HO3.out hb4) (show w.heap.size ≤ _ from hs2))
      have hml : (markL k.b n.b X b.b).length = 16 := markL_length _ _ _ _
      obtain ⟨M, hM⟩ : ∃ M, M = markL k.b n.b X b.b := ⟨_, rfl⟩
      rw [← hM] at hml ⊢
      have hmz : (bs M).size = 16 := by rw [bs_size, hml]
      have HM := veil hM
      clear hM hb4 HO3 HOK HB3 r3
      have b5 := b4.alloc b4.size (.cells (bs M) 55)
      have r5 : Row (w4.alloc (.cells (bs M) 55)) w4.heap.size 55 (bs M) := Row.new _ _ _
      have hs5 := b5.size
      have HB5 := veil b5
      clear b4 b5
      go_wp2_with (first
        | (with_reducible (show wpList _ _ _ (⟨_, Op.alloc 55, _, _, _, _⟩ :: _) _ _)
           refine alloc_row rfl 55 rfl (bs z16) (by kernel_rfl) ?_)
        | (with_reducible (show wpList _ _ _ (⟨_, Op.store 55 _ _, _, _, _, _⟩ :: _) _ _)
           refine store_new (w := w4) (by rfl) 55 _ _ (by rfl) w4.heap.size (bs M) (by rfl) (by rfl) 55 (bs z16) (by rfl) 16 (by kernel_rfl) (by rfl) hmz (bs_one _) ?_)
        | (with_reducible (show wpList _ _ _ (⟨some 40, Op.call _, _, _, _, _⟩ :: _) _ _)
           refine append_sl rfl _ _ 22 rfl w.heap.size i0 Tryz.underlying22 hi hz0 hz1 hz2 _ p.len X rfl (HO4.out.alloc _) (rowN w4.heap.size 16 M) (rowN_ok r5 hml) rfl (by show p.len + 16 ≤ 8388608; omega) hs5 ?_
           intro v6 w6 hown6 hgrow6))
      obtain ⟨a6, c6, rfl⟩ := own_shape hown6
      have b6 := HB5.out.grown hgrow6 hs5 (fun z e => ((HO4.out.alloc (.cells (bs M) 55)).lt z e).1)
      have e6 : X ++ M = sealL k.b n.b p.b b.b := by rw [HXX.out, HM.out, HXX.out]; rfl
      have HO6 : w6.ownsRow w.heap.size 5 1 (.slice a6 (p.len + 16) c6) (p.len + 16) (vb (sealL k.b n.b p.b b.b)) := by rw [← e6]; exact hown6
      clear hown6 hgrow6
      go_wp2_with fail
      go_ret2
      rw [HE.out, HO.out, sealL_length, HP.out.hb]
      exact ⟨a6, c6, rfl, HO6, b6⟩
    · obtain ⟨hE, hO⟩ := seal_limit (k := k.b) (n := n.b) (p := p.b) (b := b.b) ⟨hk32, hn12⟩ (by rw [HP.out.hb, HB.out.hb]; exact hbig)
      have HE := veil hE
      have HO := veil hO
      clear hE hO
      by_cases h1 : p.len ≤ 1048576
      · have d1 : decide ((1048576 : Int) < (p.len : Int)) = false := by simp; omega
        have d2 : decide ((1048576 : Int) < (b.len : Int)) = true := by simp; omega
        go_wp2_with (first
          | (with_reducible (show wpList _ _ _ (⟨_, Op.alloc 52, _, _, _, _⟩ :: _) _ _)
             refine alloc_row rfl 52 rfl (bs z44) (by kernel_rfl) ?_)
          | (with_reducible (show wpList _ _ _ (⟨_, Op.store 52 _ _, _, _, _, _⟩ :: _) _ _)
             refine store_new (w := w1) (by rfl) 52 _ _ (by rfl) w1.heap.size (bs (k.b ++ n.b)) (by rfl) (by rfl) 52 (bs z44) (by rfl) 44 (by kernel_rfl) (by rfl) hz44 (bs_one _) ?_))
        go_ret2
        rw [HE.out, HO.out]
        exact ⟨none, 0, rfl, World.ownsRow_nil _ _ _ _, b2⟩
      · have d1 : decide ((1048576 : Int) < (p.len : Int)) = true := by simp; omega
        go_wp2_with (first
          | (with_reducible (show wpList _ _ _ (⟨_, Op.alloc 52, _, _, _, _⟩ :: _) _ _)
             refine alloc_row rfl 52 rfl (bs z44) (by kernel_rfl) ?_)
          | (with_reducible (show wpList _ _ _ (⟨_, Op.store 52 _ _, _, _, _, _⟩ :: _) _ _)
             refine store_new (w := w1) (by rfl) 52 _ _ (by rfl) w1.heap.size (bs (k.b ++ n.b)) (by rfl) (by rfl) 52 (bs z44) (by rfl) 44 (by kernel_rfl) (by rfl) hz44 (bs_one _) ?_))
        go_ret2
        rw [HE.out, HO.out]
        exact ⟨none, 0, rfl, World.ownsRow_nil _ _ _ _, b2⟩
  · obtain ⟨hE, hO⟩ := seal_arg (k := k.b) (n := n.b) (p := p.b) (b := b.b) (by rw [HK.out.hb, HN.out.hb]; exact hno)
    have HE := veil hE
    have HO := veil hO
    have b2 := hb1.alloc hb1.size (.cells (bs z44) 52)
    have hz44 : (bs z44).size = 44 := by rw [bs_size]; rfl
    clear hE hO hb1
    go_wp2_with (first
      | (with_reducible (show wpList _ _ _ (⟨_, Op.alloc 52, _, _, _, _⟩ :: _) _ _)
         refine alloc_row rfl 52 rfl (bs z44) (by kernel_rfl) ?_)
      | (with_reducible (show wpList _ _ _ (⟨_, Op.store 52 _ _, _, _, _, _⟩ :: _) _ _)
         refine store_new (w := w1) (by rfl) 52 _ _ (by rfl) w1.heap.size (bs z44) (by rfl) (by rfl) 52 (bs z44) (by rfl) 44 (by kernel_rfl) (by rfl) hz44 (bs_one _) ?_))
    go_ret2
    rw [HE.out, HO.out]
    exact ⟨none, 0, rfl, World.ownsRow_nil _ _ _ _, b2⟩
end Go.Proofs.YtffokggejbmadaaGreatDoor
