/-
  AeadBack's walk.
-/
import Derived.Test.YtffokggejbmadaaDoorGdAeAlive
import Derived.Test.YtffokggejbmadaaDoorGdAeGreat
namespace Go.Proofs.YtffokggejbmadaaDoor
open Go Go.RowKit

theorem seal_three (k n p b : List By) : (sealE k n p b = 1 ∧ sealO k n p b = []) ∨ (sealE k n p b = 3 ∧ sealO k n p b = []) ∨ (sealE k n p b = 0 ∧ sealO k n p b = sealL k n p b ∧ (k.length = 32 ∧ n.length = 12) ∧ p.length ≤ 1048576 ∧ b.length ≤ 1048576) := by
  by_cases h1 : k.length = 32 ∧ n.length = 12
  · by_cases h2 : p.length ≤ 1048576 ∧ b.length ≤ 1048576
    · exact .inr (.inr ⟨(seal_fine h1 h2).1, (seal_fine h1 h2).2, h1, h2⟩)
    · exact .inr (.inl (seal_limit h1 h2))
  · exact .inl (seal_arg h1)
theorem hid_seal (k n p b : List By) : hidO (sealL k n p b) = xorL k 1 n p := by
  unfold hidO
  rw [sealL_length, Nat.add_sub_cancel, hidden_seal]
theorem tagO_seal (k n p b : List By) : tagO (sealL k n p b) = markL k n (xorL k 1 n p) b := by
  unfold tagO
  rw [sealL_length, Nat.add_sub_cancel, tag_seal]
theorem open_back (k n p b : List By) (h1 : k.length = 32 ∧ n.length = 12) (h2 : p.length ≤ 1048576 ∧ b.length ≤ 1048576) : openE k n (sealL k n p b) b = 0 ∧ openO k n (sealL k n p b) b = p := by
  have := open_fine (k := k) (n := n) (s := sealL k n p b) (b := b) h1 (by rw [sealL_length]; omega) (by rw [sealL_length]; omega) (by rw [hid_seal, tagO_seal])
  rw [hid_seal, xorL_twice] at this
  exact this
theorem with_cells {W : World} {g : Nat} {t : TypeId} {k n b : SL} (r : Row W g t (withC k n b)) : W.cell? ⟨g, 0, none⟩ = some (.slice k.a k.len k.cap) ∧ W.cell? ⟨g, 1, none⟩ = some (.slice n.a n.len n.cap) ∧ W.cell? ⟨g, 2, none⟩ = some (.slice b.a b.len b.cap) :=
  ⟨r.cell 0, r.cell 1, r.cell 2⟩

set_option maxRecDepth 20000 in
set_option maxHeartbeats 4000000 in
theorem back_walk (k n b p : SL) (w : World) (hg : Glob w) (hk : k.Ok w) (hn : n.Ok w) (hb : b.Ok w) (hp : p.Ok w) (lk : k.len ≤ 140737488355328) (ln : n.len ≤ 140737488355328) (lb : b.len ≤ 140737488355328) (lp : p.len ≤ 140737488355328) :
    Calls Tryd.prog 3 #[.agg (withC k n b), .slice p.a p.len p.cap] w fun e w' => e = .returned (.bool true) ∧ Below w.heap.size w w' := by
  have HG := veil hg
  have HK := veil hk
  have HN := veil hn
  have HB := veil hb
  have HP := veil hp
  have HLK := veil lk
  have HLN := veil ln
  have HLB := veil lb
  have HLP := veil lp
  have hpb := hp.hb
  clear hg hk hn hb hp lk ln lb lp
  have hz3 : (withC k n b).size = 3 := rfl
  have r0 : Row (w.alloc (.cells (withC k n b) 24)) w.heap.size 24 (withC k n b) := Row.new _ _ _
  have b0 : Below w.heap.size w (w.alloc (.cells (withC k n b) 24)) := (Below.refl _ w).alloc (Nat.le_refl _) _
  go_enter Tryd.func3, Tryd.ntmps3
  go_wp2_with fail
  refine (alive_any _ (HG.out.below b0 (Nat.le_refl _))).mono ?_
  rintro e1 w1 ⟨rfl, hb1⟩
  have r1 := r0.below hb1 r0.lt
  have b1 := b0.trans (hb1.mono b0.size)
  clear hb1 r0 b0
  go_wp2_with (with_reducible (show wpList _ _ _ (⟨some 12, Op.load 24 _, _, _, _, _⟩ :: _) _ _)
               refine value_G (by rfl) (.agg (withC k n b)) (run_mid 24 _ w.heap.size 0 (withC k n b) _ rfl rfl Tryd.underlying24 rfl (by rw [hz3]; kernel_rfl) _ (lock_whole r1)) ?_)
  refine (great_any k n b p HLK.out HLN.out HLB.out HLP.out w1).mono ?_
  rintro e2 w2 ⟨rfl, hb2⟩
  have b2 := b1.trans (hb2.mono b1.size)
  have r2 := r1.below hb2 r1.lt
  clear hb2 r1 b1
  cases hG : greatB k.len n.len b.len p.len with
  | true =>
    go_wp2_with fail
    refine (alive_any _ (HG.out.below b2 (Nat.le_refl _))).mono ?_
    rintro e3 w3 ⟨rfl, hb3⟩
    have b3 := b2.trans (hb3.mono b2.size)
    clear hb3
    go_wp2_with fail
    go_ret
    exact ⟨rfl, b3⟩
  | false =>
    clear hG
    obtain ⟨c0, c1, c2⟩ := with_cells r2
    have HR2 := veil r2
    have HB2 := veil b2
    have hs2 := b2.size
    clear r2 b2
    go_wp2_with fail
    refine (seal_any k n p b w2 (HG.out.below HB2.out (Nat.le_refl _)) (HK.out.below HB2.out) (HN.out.below HB2.out) (HP.out.below HB2.out) (HB.out.below HB2.out)).mono ?_
    rintro e3 w3 ⟨a3, c3, rfl, own3, hb3⟩
    have b3 := HB2.out.trans (hb3.mono hs2)
    have r3 := HR2.out.below hb3 HR2.out.lt
    clear hb3 c0 c1 c2
    rcases seal_three k.b n.b p.b b.b with ⟨hE, hO⟩ | ⟨hE, hO⟩ | ⟨hE, hO, h32, hle⟩
    · rw [hE, hO, List.length_nil]
      clear hE hO
      go_wp2_with fail
      go_ret
      exact ⟨rfl, b3⟩
    · rw [hE, hO, List.length_nil]
      clear hE hO
      go_wp2_with fail
      go_ret
      exact ⟨rfl, b3⟩
    · rw [hO, sealL_length, hpb] at own3
      rw [hE, hO, sealL_length, hpb]
      clear hE hO
      have HO3 := veil (own_sl6 own3)
      obtain ⟨hB1, hB2⟩ := open_back k.b n.b p.b b.b h32 hle
      obtain ⟨c0, c1, c2⟩ := with_cells r3
      have H32 := veil h32
      have HLE := veil hle
      have HB3 := veil b3
      have hs3 := b3.size
      clear own3 h32 hle b3 r3 HR2 HB2
      go_wp2_with fail
      obtain ⟨s, hv, hl, hsb, hok⟩ := HO3.out
      rw [hv]
      have hO := open_any k n s b w3 (HG.out.below HB3.out (Nat.le_refl _)) (HK.out.below HB3.out) (HN.out.below HB3.out) hok (HB.out.below HB3.out) (by rw [hl]; have := HLE.out.1; rw [hpb] at this; omega)
      rw [hsb, hB1, hB2, hpb] at hO
      refine hO.mono ?_
      rintro e4 w4 ⟨a4, c4, rfl, own4, hb4⟩
      have b4 := HB3.out.trans (hb4.mono hs3)
      have HO4 := veil (own_sl6 own4)
      have hw16 : IntKind.i64.wrap ((p.len : Int) + 16) = ((p.len : Int) + 16) := by rw [IntKind.wrap_i64]; have := HLP.out; omega
      have heq : (((s.len : Nat) : Int) == (p.len : Int) + 16) = true := by rw [hl]; simp
      clear own4 hb4 hO hB1 hB2 hv hok hsb hl
      go_wp2_with fail
      obtain ⟨s4, hv4, hl4, hsb4, hok4⟩ := HO4.out
      rw [hv4]
      refine (same_sl s4 p w4 hok4 (HP.out.below b4) hsb4 (by rw [hl4, ← hpb]; have := HLE.out.1; omega)).mono ?_
      rintro e5 w5 ⟨rfl, hb5⟩
      have b5 := b4.trans (hb5.mono b4.size)
      clear hb5
      go_wp2_with fail
      go_ret
      exact ⟨rfl, b5⟩
end Go.Proofs.YtffokggejbmadaaDoor
