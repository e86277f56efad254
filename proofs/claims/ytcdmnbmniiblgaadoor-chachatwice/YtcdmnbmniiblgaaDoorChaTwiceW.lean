/-
  ChachaTwice's walk.
-/
import Derived.Test.YtcdmnbmniiblgaaDoorChaLaw
namespace Go.Proofs.YtcdmnbmniiblgaaDoor
open Go Go.RowKit

set_option maxRecDepth 20000 in
set_option maxHeartbeats 2000000 in
theorem twice_walk (key : List By) (count : Wd) (nonce : List By) (hk : key.length = 32) (hn : nonce.length = 12) (b : SL) (w : World) (hg : Glob w) (hb : b.Ok w) (hl : b.len ≤ 140737488355328) :
    Calls Tryd.prog 4 #[.agg (fromC key count nonce), .slice b.a b.len b.cap] w fun e w' => e = .returned (.bool true) ∧ Below w.heap.size w w' := by
  have HK := veil hk
  have HN := veil hn
  have HG := veil hg
  have HB := veil hb
  have hkz : (bs key).size = 32 := by rw [bs_size, hk]
  have hnz : (bs nonce).size = 12 := by rw [bs_size, hn]
  have hbl := hb.hb
  clear hk hn hg hb
  have r0 : Row (w.alloc (.cells (fromC key count nonce) 26)) w.heap.size 26 (fromC key count nonce) := Row.new _ _ _
  have b0 : Below w.heap.size w (w.alloc (.cells (fromC key count nonce) 26)) := (Below.refl _ w).alloc (Nat.le_refl _) _
  go_enter Tryd.func4, Tryd.ntmps4
  go_wp2_with fail
  refine (alive_any _ (HG.out.below b0 (Nat.le_refl _))).mono ?_
  rintro e1 w1 ⟨rfl, hb1⟩
  have r1 := r0.below hb1 r0.lt
  have b1 := b0.trans (hb1.mono b0.size)
  clear hb1 r0 b0
  go_wp2_with fail
  have r2 := r1.alloc (.cells #[.int .i64 (b.len : Int)] 3)
  have b2 := b1.alloc b1.size (.cells #[.int .i64 (b.len : Int)] 3)
  by_cases hbig : b.len ≤ 1048576
  · refine (beyond_no _ _ (b.len : Int) _ (by omega) (by omega) (by simp)).mono ?_
    rintro e2 w2 ⟨rfl, hw2⟩
    rw [hw2]
    clear hw2 w2 r1 b1
    generalize w1.alloc (.cells #[.int .i64 (b.len : Int)] 3) = W2 at *
    have c32 := from_count r2 HK.out
    have HR2 := veil r2
    have HB2 := veil b2
    have hr2 := r2.lt
    clear r2 b2
    go_wp2_with (first
      | (with_reducible (show wpList _ _ _ (⟨_, Op.load 22 _, _, _, _, _⟩ :: _) _ _)
         refine load_part rfl 22 _ rfl w.heap.size 0 rfl (bs key) _ Tryd.underlying22 rfl 32 (by kernel_rfl) hkz (from_key HR2.out) ?_)
      | (with_reducible (show wpList _ _ _ (⟨_, Op.load 24 _, _, _, _, _⟩ :: _) _ _)
         refine load_part rfl 24 _ rfl w.heap.size 33 rfl (bs nonce) _ Tryd.underlying24 rfl 12 (by kernel_rfl) hnz (from_nonce HR2.out HK.out) ?_))
    have hg2 := HG.out.below HB2.out (Nat.le_refl _)
    have hb2 := HB.out.below HB2.out
    rcases xor_cases key count nonce HK.out HN.out b W2 hg2 hb2 with ⟨hG, hX⟩ | ⟨hG, hX⟩
    · refine hX.mono ?_
      rintro e3 w3 ⟨rfl, hb3⟩
      have b3 := HB2.out.trans (hb3.mono HB2.out.size)
      clear hb3 hX
      go_wp2_with fail
      go_ret
      exact ⟨rfl, b3⟩
    · refine hX.mono ?_
      rintro e3 w3 ⟨g3, rfl, own3, hb3⟩
      have hG2 := (show Hid (¬ Great count b.len) from hG)
      have ok3 := veil (own_ok own3)
      have b3 := veil (HB2.out.trans (hb3.mono HB2.out.size))
      have r3 := veil (HR2.out.below hb3 hr2)
      have bb3 := veil (hb2.below hb3)
      have c33 := from_count r3.out HK.out
      clear own3 hb3 hX hG hg2 hb2 c32
      go_wp2_with (first
        | (with_reducible (show wpList _ _ _ (⟨_, Op.load 22 _, _, _, _, _⟩ :: _) _ _)
           refine load_part rfl 22 _ rfl w.heap.size 0 rfl (bs key) _ Tryd.underlying22 rfl 32 (by kernel_rfl) hkz (from_key r3.out) ?_)
        | (with_reducible (show wpList _ _ _ (⟨_, Op.load 24 _, _, _, _, _⟩ :: _) _ _)
           refine load_part rfl 24 _ rfl w.heap.size 33 rfl (bs nonce) _ Tryd.underlying24 rfl 12 (by kernel_rfl) hnz (from_nonce r3.out HK.out) ?_))
      have hX := xor_ok key count nonce HK.out HN.out ⟨some ⟨g3, 0, none⟩, b.len, b.len, g3, 0, xorL key count nonce b.b⟩ w3 (HG.out.below b3.out (Nat.le_refl _)) ok3.out hbig (by have := hG2.out; unfold Great at this; show (((b.len + 63) / 64 : Nat) : Int) ≤ _; omega)
      refine hX.mono ?_
      rintro e4 w4 ⟨g4, rfl, own4, hb4⟩
      have own5 : w4.ownsRow w3.heap.size 5 1 (.slice (some ⟨g4, 0, none⟩) b.len b.len) b.len (vb b.b) := by
        have := own4
        rw [show (⟨some ⟨g3, 0, none⟩, b.len, b.len, g3, 0, xorL key count nonce b.b⟩ : SL).b = xorL key count nonce b.b from rfl, xorL_twice] at this
        exact this
      have ok5 := veil (own_ok own5)
      have b4 := veil (b3.out.trans (hb4.mono b3.out.size))
      have bb4 := veil (bb3.out.below hb4)
      have heq : ((b.len : Int) == (b.len : Int)) = true := by simp
      clear own4 own5 hb4 hX c33
      go_wp2_with fail
      refine (same_sl ⟨some ⟨g4, 0, none⟩, b.len, b.len, g4, 0, b.b⟩ b w4 ok5.out bb4.out rfl (by show b.len ≤ _; omega)).mono ?_
      rintro e6 w6 ⟨rfl, hb6⟩
      have b6 := b4.out.trans (hb6.mono b4.out.size)
      clear hb6
      go_wp2_with fail
      go_ret
      exact ⟨rfl, b6⟩
  · refine (beyond_yes _ _ (b.len : Int) _ (by omega) (by omega) (by simp)).mono ?_
    rintro e2 w2 ⟨rfl, hw2⟩
    rw [hw2]
    clear hw2 w2 r1 b1
    generalize w1.alloc (.cells #[.int .i64 (b.len : Int)] 3) = W2 at *
    go_wp2_with fail
    refine (alive_any _ (HG.out.below b2 (Nat.le_refl _))).mono ?_
    rintro e3 w3 ⟨rfl, hb3⟩
    have b3 := b2.trans (hb3.mono b2.size)
    clear hb3
    go_wp2_with fail
    go_ret
    exact ⟨rfl, b3⟩
end Go.Proofs.YtcdmnbmniiblgaaDoor
