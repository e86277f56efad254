/-
  Out of AeRefSum, AeRefSeal.
-/
import Derived.Test.YtbheoldakmcppaaGreatDoorGs34
import Derived.Test.YtbheoldakmcppaaGreatDoorGs37
import Derived.Test.YtbheoldakmcppaaGreatDoorGs28

/-! What the document's Sum answers. -/
namespace Go.Proofs.YtbheoldakmcppaaGreatDoor
open Go Go.RowKit

theorem own_slR {w : World} {base : Nat} {v : Value} {n : Nat} {xs : List By} (h : w.ownsRow base 5 1 v n (vb xs)) : ∃ s : SL, v = .slice s.a s.len s.cap ∧ s.len = n ∧ s.b = xs ∧ s.Ok w := by
  obtain ⟨s, h1, h2, h3, h4, _⟩ := SL.of_own h
  exact ⟨s, h1.symm, h2, h3, h4⟩
set_option maxRecDepth 20000 in
set_option maxHeartbeats 2000000 in
theorem aeRefSum_any (key nonce : List By) (hk : key.length = 32) (hn : nonce.length = 12) (h b : SL) (w : World) (hh : h.Ok w) (hb : b.Ok w) (hl : h.len ≤ 1048576) (bl : b.len ≤ 1048576) :
    Calls Tryz.prog 83 #[.agg (bs key), .agg (bs nonce), .slice h.a h.len h.cap, .slice b.a b.len b.cap] w fun e w' => e = .returned (.agg (bs (markL key nonce h.b b.b))) ∧ Below w.heap.size w w' := by
  obtain ⟨i0, hi, hz0, hz1, hz2⟩ := info_parts (P := Tryz.prog) (e := 5) (z := .int .u8 0) (size := 1) (bytes := 1) (by kernel_rfl)
  obtain ⟨W0, hW0⟩ : ∃ W0, W0 = ((w.alloc (.cells (bs key) 78)).alloc (.cells (bs nonce) 76)).alloc (.cells (bs z16) 83) := ⟨_, rfl⟩
  have q0 : Row W0 w.heap.size 78 (bs key) := by rw [hW0]; exact ((Row.new _ _ _).alloc _).alloc _
  have q1 : Row W0 (w.heap.size + 1) 76 (bs nonce) := by rw [hW0]; exact (Row.new1 _ _ _ _).alloc _
  have q2 : Row W0 (w.heap.size + 1 + 1) 83 (bs z16) := by rw [hW0]; exact Row.new2 _ _ _ _ _
  have b0 : Below w.heap.size w W0 := by rw [hW0]; exact (((Below.refl _ w).alloc (Nat.le_refl _) _).alloc (by simp) _).alloc (by simp; omega) _
  have hkz : (bs key).size = 32 := by rw [bs_size, hk]
  have hnz : (bs nonce).size = 12 := by rw [bs_size, hn]
  have HK := veil hk
  have HN := veil hn
  have HH := veil (hh.below b0)
  have HB := veil (hb.below b0)
  have hhb := hh.hb
  have hbb := hb.hb
  have HW0 := veil hW0
  have HHL := veil hl
  have HBL := veil bl
  have hs0 := b0.size
  have HQ0 := veil q0
  have HQ1 := veil q1
  have HQ2 := veil q2
  have HB0 := veil b0
  have hl2 := q2.lt
  have hl1 := q1.lt
  have hl0 := q0.lt
  clear hk hn hh hb hW0 hl bl q0 q1 q2 b0
  go_enter Tryz.func83, Tryz.ntmps83
  go_wp2_with (first
    | (with_reducible (show wpList _ _ _ (⟨_, Op.alloc 83, _, _, _, _⟩ :: _) _ _)
       refine alloc_row rfl 83 rfl (bs z16) (by kernel_rfl) ?_)
    | (with_reducible (show wpList _ _ _ (⟨some 15, Op.call _, _, _, _, _⟩ :: _) _ _)
       rw [← HW0.out]
       refine append_sl rfl _ _ 22 rfl W0.heap.size i0 Tryz.underlying22 hi hz0 hz1 hz2 _ 0 [] rfl (World.ownsRow_nil _ _ _ _) b HB.out rfl (by have := HBL.out; omega) (Nat.le_refl _) ?_
       intro v1 w1 hown1 hgrow1))
  obtain ⟨a1, c1, rfl⟩ := own_shape hown1
  have HB1 := veil ((Below.refl _ W0).grown hgrow1 (Nat.le_refl _) (fun q e => by cases e))
  have HO1 : Hid (w1.ownsRow W0.heap.size 5 1 (.slice a1 b.len c1) b.len (vb b.b)) := show World.ownsRow _ _ _ _ _ _ _ by
    have := hown1
    rw [Nat.zero_add, List.nil_append] at this
    exact this
  rw [Nat.zero_add]
  clear hown1 hgrow1
  refine (refFilled_any W0.heap.size a1 b.len c1 b.b w1 HB1.out.size (by have := HBL.out; omega) HO1.out).mono ?_
  rintro e2 w2 ⟨a2, c2, rfl, own2, hb2⟩
  have HB2 := veil (HB1.out.trans hb2)
  have HO2 := veil own2
  have hs2 := HB2.out.size
  have hp1 := pad16_lt b.len
  obtain ⟨N2, hN2⟩ : ∃ N2, N2 = b.len + pad16 b.len := ⟨_, rfl⟩
  rw [← hN2] at HO2 ⊢
  have HN2 := veil hN2
  have HN2B : Hid (N2 ≤ 1048592) := show _ ≤ _ by have := HBL.out; omega
  clear own2 hb2 HO1 HB1 hN2
  go_wp2_with (with_reducible (show wpList _ _ _ (⟨some 19, Op.call _, _, _, _, _⟩ :: _) _ _)
               refine append_sl rfl _ _ 22 rfl W0.heap.size i0 Tryz.underlying22 hi hz0 hz1 hz2 _ N2 _ rfl HO2.out h (HH.out.below HB2.out) rfl (by have := HHL.out; have := HN2B.out; omega) hs2 ?_
               intro v3 w3 hown3 hgrow3)
  obtain ⟨a3, c3, rfl⟩ := own_shape hown3
  have HB3 := veil (HB2.out.grown hgrow3 hs2 (fun z e => (HO2.out.lt z e).1))
  have HO3 := veil hown3
  clear hown3 hgrow3 HO2 HB2
  refine (refFilled_any W0.heap.size a3 (N2 + h.len) c3 (fillL b.b ++ h.b) w3 HB3.out.size (by have := HHL.out; have := HN2B.out; omega) HO3.out).mono ?_
  rintro e4 w4 ⟨a4, c4, rfl, own4, hb4⟩
  have HB4 := veil (HB3.out.trans hb4)
  have hp2 := pad16_lt (N2 + h.len)
  have eF : fillL (fillL b.b ++ h.b) = fillL b.b ++ h.b ++ List.replicate (pad16 h.b.length) 0 := taggedL_fill _ _
  rw [eF] at own4
  obtain ⟨N4, hN4⟩ : ∃ N4, N4 = N2 + h.len + pad16 (N2 + h.len) := ⟨_, rfl⟩
  rw [← hN4] at own4 ⊢
  have HO4 := veil own4
  have HN4B : Hid (N4 ≤ 2500000) := show _ ≤ _ by have := HHL.out; have := HN2B.out; omega
  have hs4 := HB4.out.size
  clear own4 hb4 HO3 HB3 hN4 eF
  go_wp2_with fail
  refine (refEight_any W0.heap.size a4 N4 c4 b.len _ w4 hs4 (by have := HN4B.out; omega) (by have := HBL.out; omega) HO4.out).mono ?_
  rintro e5 w5 ⟨a5, c5, rfl, own5, hb5⟩
  have HB5 := veil (HB4.out.trans hb5)
  have HO5 := veil own5
  have hs5 := HB5.out.size
  clear own5 hb5 HO4 HB4
  go_wp2_with fail
  refine (refEight_any W0.heap.size a5 (N4 + 8) c5 h.len _ w5 hs5 (by have := HN4B.out; omega) (by have := HHL.out; omega) HO5.out).mono ?_
  rintro e6 w6 ⟨a6, c6, rfl, own6, hb6⟩
  have HB6 := veil (HB5.out.trans hb6)
  have eT : fillL b.b ++ h.b ++ List.replicate (pad16 h.b.length) 0 ++ eightL b.len ++ eightL h.len = taggedL b.b h.b := by
    unfold taggedL
    rw [hhb, hbb]
  rw [eT] at own6
  have HO6 := veil own6
  have hs6 := HB6.out.size
  clear own6 hb6 HO5 HB5 eT
  obtain ⟨N6, hN6⟩ : ∃ N6, N6 = N4 + 8 + 8 := ⟨_, rfl⟩
  rw [← hN6] at HO6 ⊢
  have HN6B : Hid (N6 ≤ 4194304) := show _ ≤ _ by have := HN4B.out; omega
  clear hN6
  have q0 := HQ0.out.below HB6.out hl0
  have q1 := HQ1.out.below HB6.out hl1
  go_wp2_with (first
    | (with_reducible (show wpList _ _ _ (⟨_, Op.load 78 _, _, _, _, _⟩ :: _) _ _)
       refine load_row rfl 78 _ rfl w.heap.size rfl _ _ q0 32 5 Tryz.underlying78 (by kernel_rfl) hkz ?_)
    | (with_reducible (show wpList _ _ _ (⟨_, Op.load 76 _, _, _, _, _⟩ :: _) _ _)
       refine load_row rfl 76 _ rfl (w.heap.size + 1) rfl _ _ q1 12 5 Tryz.underlying76 (by kernel_rfl) hnz ?_))
  refine (chaRefBlock_any key 0 nonce HK.out HN.out w6).mono ?_
  rintro e7 w7 ⟨rfl, hb7⟩
  have hbl := blockL_length key 0 nonce
  obtain ⟨B, hB⟩ : ∃ B, B = blockL key 0 nonce := ⟨_, rfl⟩
  rw [← hB] at hbl ⊢
  have HBB := veil hB
  have hbz : (bs B).size = 64 := by rw [bs_size, hbl]
  have b7 := HB6.out.trans (hb7.mono hs6)
  have own7 := own_below HO6.out hb7
  have b8 := b7.alloc b7.size (.cells (bs B) 187)
  have r8 : Row (w7.alloc (.cells (bs B) 187)) w7.heap.size 187 (bs B) := Row.new _ _ _
  have own8 := own7.alloc (.cells (bs B) 187)
  have HB8 := veil b8
  have HO8 := veil own8
  clear hB hb7 b7 own7 HO6 q0 q1 b8 own8
  go_wp2_with (first
    | (with_reducible (show wpList _ _ _ (⟨_, Op.alloc 187, _, _, _, _⟩ :: _) _ _)
       refine alloc_row rfl 187 rfl (bs (List.replicate 64 0)) (by kernel_rfl) ?_)
    | (with_reducible (show wpList _ _ _ (⟨_, Op.store 187 _ _, _, _, _, _⟩ :: _) _ _)
       refine store_new (w := w7) (by rfl) 187 _ _ (by rfl) w7.heap.size (bs B) (by rfl) (by rfl) 187 (bs (List.replicate 64 0)) (by rfl) 64 (by kernel_rfl) (by rfl) hbz (bs_one _) ?_))
  have sl8 := slice_ok r8 0 32 64 (by omega) (by omega)
  refine (refkey32_any _ _ sl8 rfl).mono ?_
  rintro e9 w9 ⟨rfl, hb9⟩
  have eO : ((B.drop 0).take 32) = B.take 32 := by rw [List.drop_zero]
  simp only []
  rw [eO]
  have hol : (B.take 32).length = 32 := by rw [List.length_take, hbl]; rfl
  obtain ⟨O, hO⟩ : ∃ O, O = B.take 32 := ⟨_, rfl⟩
  rw [← hO] at hol ⊢
  have HOO := veil hO
  have b9 := HB8.out.trans (hb9.mono HB8.out.size)
  have own9 := own_below HO8.out hb9
  obtain ⟨l, hlv, hll, hlb, hlok⟩ := own_slR own9
  have HLV := veil hlv
  have HLL := veil hll
  have HLBB := veil hlb
  have HLOK := veil hlok
  have HB9 := veil b9
  have hs9 := b9.size
  clear hO eO hb9 b9 own9 HB8 HO8 r8 sl8 hlv hll hlb hlok
  go_wp2_with fail
  rw [HLV.out]
  refine (refTag_any O hol l w9 HLOK.out (by rw [HLL.out]; exact HN6B.out)).mono ?_
  rintro e10 w10 ⟨rfl, hb10⟩
  have eM : tagL O l.b = markL key nonce h.b b.b := by
    rw [HLBB.out, HOO.out, HBB.out]
    rfl
  rw [eM]
  have hml := markL_length key nonce h.b b.b
  obtain ⟨M, hM⟩ : ∃ M, M = markL key nonce h.b b.b := ⟨_, rfl⟩
  rw [← hM] at hml ⊢
  have HM := veil hM
  have hmz : (bs M).size = 16 := by rw [bs_size, hml]
  have hz16 : (bs z16).size = 16 := by rw [bs_size]; rfl
  have b10 := HB9.out.trans (hb10.mono hs9)
  have b11 := b10.alloc b10.size (.cells (bs M) 83)
  have r11 : Row (w10.alloc (.cells (bs M) 83)) w10.heap.size 83 (bs M) := Row.new _ _ _
  have q11 := HQ2.out.below b11 hl2
  have bw := HB0.out.trans (b11.mono hs0)
  clear hM eM hb10 b10 b11
  go_wp2_with (first
    | (with_reducible (show wpList _ _ _ (⟨_, Op.alloc 83, _, _, _, _⟩ :: _) _ _)
       refine alloc_row rfl 83 rfl (bs z16) (by kernel_rfl) ?_)
    | (with_reducible (show wpList _ _ _ (⟨_, Op.store 83 (.tmp 11) _, _, _, _, _⟩ :: _) _ _)
       refine store_new (w := w10) (by rfl) 83 _ _ (by rfl) w10.heap.size (bs M) (by rfl) (by rfl) 83 (bs z16) (by rfl) 16 (by kernel_rfl) (by rfl) hmz (bs_one _) ?_)
    | (with_reducible (show wpList _ _ _ (⟨_, Op.load 83 _, _, _, _, _⟩ :: _) _ _)
       refine load_row rfl 83 _ rfl w10.heap.size rfl _ _ r11 16 5 Tryz.underlying83 (by kernel_rfl) hmz ?_)
    | (with_reducible (show wpList _ _ _ (⟨_, Op.store 83 (.tmp 8) _, _, _, _, _⟩ :: _) _ _)
       refine store_row rfl 83 _ _ rfl (w.heap.size + 1 + 1) (bs M) rfl rfl _ _ q11 16 (by kernel_rfl) hz16 hmz (bs_one _) ?_))
  refine bodyPost_ret (result_row rfl _ _ (w.heap.size + 1 + 1) _ _ (q11.put _) 16 5 rfl Tryz.underlying83 (by kernel_rfl) hmz) rfl ⟨by rw [HM.out], bSetRow bw (by omega) _⟩
end Go.Proofs.YtbheoldakmcppaaGreatDoor

/-! What the document's Seal answers, at any bytes. -/
namespace Go.Proofs.YtbheoldakmcppaaGreatDoor
open Go Go.RowKit

def nilR : SL := ⟨none, 0, 0, 0, 0, []⟩
theorem nilR_ok (w : World) : nilR.Ok w := ⟨rfl, Nat.le_refl _, fun _ => ⟨rfl, rfl⟩, fun h => absurd h (Nat.lt_irrefl _), fun h => absurd h (Nat.lt_irrefl _), fun _ h => absurd h (Nat.not_lt_zero _)⟩

set_option maxRecDepth 20000 in
set_option maxHeartbeats 2000000 in
theorem refSeal_any (k n p b : SL) (w : World) (hk : k.Ok w) (hn : n.Ok w) (hp : p.Ok w) (hb : b.Ok w) :
    Calls Tryz.prog 30 #[.slice k.a k.len k.cap, .slice n.a n.len n.cap, .slice p.a p.len p.cap, .slice b.a b.len b.cap] w fun e w' => ∃ q : SL, e = .returned (.tuple #[.slice q.a q.len q.cap, .int .i64 (sealE k.b n.b p.b b.b)]) ∧ q.Ok w' ∧ q.b = sealO k.b n.b p.b b.b ∧ Below w.heap.size w w' := by
  obtain ⟨i0, hi, hz0, hz1, hz2⟩ := info_parts (P := Tryz.prog) (e := 5) (z := .int .u8 0) (size := 1) (bytes := 1) (by kernel_rfl)
  have HK := veil hk
  have HN := veil hn
  have HP := veil hp
  have HB := veil hb
  clear hk hn hp hb
  go_enter Tryz.func30, Tryz.ntmps30
  by_cases h1 : k.len = 32 ∧ n.len = 12
  · have hk32 : k.b.length = 32 := by rw [HK.out.hb, h1.1]
    have hn12 : n.b.length = 12 := by rw [HN.out.hb, h1.2]
    obtain ⟨h32, h12⟩ := h1
    have d1 : ((k.len : Int) != 32) = false := by rw [h32]; rfl
    have d2 : ((n.len : Int) != 12) = false := by rw [h12]; rfl
    by_cases hbig : p.len ≤ 1048576 ∧ b.len ≤ 1048576
    · obtain ⟨hE, hO⟩ := seal_fine (k := k.b) (n := n.b) (p := p.b) (b := b.b) ⟨hk32, hn12⟩ (by rw [HP.out.hb, HB.out.hb]; exact hbig)
      have d3 : decide ((1048576 : Int) < (p.len : Int)) = false := by simp; omega
      have d4 : decide ((1048576 : Int) < (b.len : Int)) = false := by simp; omega
      have HE := veil hE
      have HO := veil hO
      have HBIG := veil hbig
      clear hE hO hbig
      go_wp2_with fail
      have hka := refkey32_any k w HK.out h32
      rw [h32] at hka
      refine hka.mono ?_
      rintro e1 w1 ⟨rfl, hb1⟩
      clear hka
      have hkz : (bs k.b).size = 32 := by rw [bs_size, hk32]
      have hnz : (bs n.b).size = 12 := by rw [bs_size, hn12]
      have b2 := hb1.alloc hb1.size (.cells (bs k.b) 78)
      have r2 : Row (w1.alloc (.cells (bs k.b) 78)) w1.heap.size 78 (bs k.b) := Row.new _ _ _
      have hs1 := hb1.size
      clear hb1
      go_wp2_with (first
        | (with_reducible (show wpList _ _ _ (⟨_, Op.alloc 78, _, _, _, _⟩ :: _) _ _)
           refine alloc_row rfl 78 rfl (bs z32b) (by kernel_rfl) ?_)
        | (with_reducible (show wpList _ _ _ (⟨_, Op.store 78 _ _, _, _, _, _⟩ :: _) _ _)
           refine store_new (w := w1) (by rfl) 78 _ _ (by rfl) w1.heap.size (bs k.b) (by rfl) (by rfl) 78 (bs z32b) (by rfl) 32 (by kernel_rfl) (by rfl) hkz (bs_one _) ?_))
      have hna := refnonce12_any n (w1.alloc (.cells (bs k.b) 78)) (HN.out.below b2) h12
      rw [h12] at hna
      refine hna.mono ?_
      rintro e3 w3 ⟨rfl, hb3⟩
      clear hna
      have b3 := b2.trans (hb3.mono b2.size)
      have r3 := r2.below hb3 r2.lt
      have hl3 := r3.lt
      have b4 := b3.alloc b3.size (.cells (bs n.b) 76)
      have r4 := r3.alloc (.cells (bs n.b) 76)
      have s4 : Row (w3.alloc (.cells (bs n.b) 76)) w3.heap.size 76 (bs n.b) := Row.new _ _ _
      clear b2 r2 b3 r3 hb3
      go_wp2_with (first
        | (with_reducible (show wpList _ _ _ (⟨_, Op.alloc 76, _, _, _, _⟩ :: _) _ _)
           refine alloc_row rfl 76 rfl (bs z12) (by kernel_rfl) ?_)
        | (with_reducible (show wpList _ _ _ (⟨_, Op.store 76 _ _, _, _, _, _⟩ :: _) _ _)
           refine store_new (w := w3) (by rfl) 76 _ _ (by rfl) w3.heap.size (bs n.b) (by rfl) (by rfl) 76 (bs z12) (by rfl) 12 (by kernel_rfl) (by rfl) hnz (bs_one _) ?_)
        | (with_reducible (show wpList _ _ _ (⟨_, Op.load 78 _, _, _, _, _⟩ :: _) _ _)
           refine load_row rfl 78 _ rfl w1.heap.size rfl _ _ r4 32 5 Tryz.underlying78 (by kernel_rfl) hkz ?_)
        | (with_reducible (show wpList _ _ _ (⟨_, Op.load 76 _, _, _, _, _⟩ :: _) _ _)
           refine load_row rfl 76 _ rfl w3.heap.size rfl _ _ s4 12 5 Tryz.underlying76 (by kernel_rfl) hnz ?_))
      refine (refXor_ok k.b 1 n.b hk32 hn12 p _ (HP.out.below b4) (by unfold Great; rw [u_one]; have := HBIG.out.1; omega)).mono ?_
      rintro e5 w5 ⟨v5, rfl, own5, hb5⟩
      obtain ⟨a5, c5, rfl⟩ := own_shape own5
      have b5 := b4.trans (hb5.mono b4.size)
      have r5 := r4.below hb5 r4.lt
      have s5 := s4.below hb5 s4.lt
      have hxl : (xorL k.b 1 n.b p.b).length = p.len := by rw [xorL_length, HP.out.hb]
      obtain ⟨X, hX⟩ : ∃ X, X = xorL k.b 1 n.b p.b := ⟨_, rfl⟩
      rw [← hX] at own5 hxl
      have HXX := veil hX
      have HO5 := veil own5
      have HB5 := veil b5
      have hs4 := b4.size
      have hs5 := b5.size
      obtain ⟨sx, hvx, hlx, hbx, hokx⟩ := own_slR own5
      have HVX := veil hvx
      have HOKX := veil hokx
      clear hX own5 hb5 b5 b4 r4 s4 hvx hokx
      go_wp2_with (first
        | (with_reducible (show wpList _ _ _ (⟨_, Op.load 78 _, _, _, _, _⟩ :: _) _ _)
           refine load_row rfl 78 _ rfl w1.heap.size rfl _ _ r5 32 5 Tryz.underlying78 (by kernel_rfl) hkz ?_)
        | (with_reducible (show wpList _ _ _ (⟨_, Op.load 76 _, _, _, _, _⟩ :: _) _ _)
           refine load_row rfl 76 _ rfl w3.heap.size rfl _ _ s5 12 5 Tryz.underlying76 (by kernel_rfl) hnz ?_))
      have hsum := aeRefSum_any k.b n.b hk32 hn12 sx b w5 HOKX.out (HB.out.below HB5.out) (by rw [hlx]; exact HBIG.out.1) HBIG.out.2
      rw [← HVX.out, hbx] at hsum
      refine hsum.mono ?_
      rintro e6 w6 ⟨rfl, hb6⟩
      have hml := markL_length k.b n.b X b.b
      obtain ⟨M, hM⟩ : ∃ M, M = markL k.b n.b X b.b := ⟨_, rfl⟩
      rw [← hM] at hml ⊢
      have HM := veil hM
      have hmz : (bs M).size = 16 := by rw [bs_size, hml]
      have own6 := own_low (own_below HO5.out hb6) hs4
      have b6 := HB5.out.trans (hb6.mono hs5)
      have b7 := b6.alloc b6.size (.cells (bs M) 83)
      have r7 : Row (w6.alloc (.cells (bs M) 83)) w6.heap.size 83 (bs M) := Row.new _ _ _
      have HO7 := veil (own6.alloc (.cells (bs M) 83))
      have HB7 := veil b7
      have hs7 := b7.size
      clear hsum hM hb6 own6 b6 b7 r5 s5 hlx hbx
      go_wp2_with (first
        | (with_reducible (show wpList _ _ _ (⟨_, Op.alloc 83, _, _, _, _⟩ :: _) _ _)
           refine alloc_row rfl 83 rfl (bs z16) (by kernel_rfl) ?_)
        | (with_reducible (show wpList _ _ _ (⟨_, Op.store 83 _ _, _, _, _, _⟩ :: _) _ _)
           refine store_new (w := w6) (by rfl) 83 _ _ (by rfl) w6.heap.size (bs M) (by rfl) (by rfl) 83 (bs z16) (by rfl) 16 (by kernel_rfl) (by rfl) hmz (bs_one _) ?_)
        | (with_reducible (show wpList _ _ _ (⟨some 49, Op.call _, _, _, _, _⟩ :: _) _ _)
           refine append_sl rfl _ _ 22 rfl w.heap.size i0 Tryz.underlying22 hi hz0 hz1 hz2 _ p.len X rfl HO7.out (rowN w6.heap.size 16 M) (rowN_ok r7 hml) rfl (by have := HBIG.out.1; show p.len + 16 ≤ 8388608; omega) hs7 ?_
           intro v8' w8 hown8 hgrow8))
      have b8 := HB7.out.grown hgrow8 hs7 (fun z e => (HO7.out.lt z e).1)
      obtain ⟨q, hqv, _, hqb, hqok⟩ := own_slR hown8
      have e8 : q.b = sealL k.b n.b p.b b.b := by rw [hqb, HXX.out]; show _ ++ M = _; rw [HM.out, HXX.out]; rfl
      have HQV := veil hqv
      clear hown8 hgrow8 hqv hqb
      go_wp2_with fail
      go_ret2
      rw [HE.out, HO.out]
      exact ⟨q, by rw [HQV.out]; rfl, hqok, e8, b8⟩
    · obtain ⟨hE, hO⟩ := seal_limit (k := k.b) (n := n.b) (p := p.b) (b := b.b) ⟨hk32, hn12⟩ (by rw [HP.out.hb, HB.out.hb]; exact hbig)
      have HE := veil hE
      have HO := veil hO
      clear hE hO
      by_cases h1 : p.len ≤ 1048576
      · have d3 : decide ((1048576 : Int) < (p.len : Int)) = false := by simp; omega
        have d4 : decide ((1048576 : Int) < (b.len : Int)) = true := by simp; omega
        go_wp2_with fail
        go_ret2
        rw [HE.out, HO.out]
        exact ⟨nilR, rfl, nilR_ok _, rfl, Below.refl _ _⟩
      · have d3 : decide ((1048576 : Int) < (p.len : Int)) = true := by simp; omega
        go_wp2_with fail
        go_ret2
        rw [HE.out, HO.out]
        exact ⟨nilR, rfl, nilR_ok _, rfl, Below.refl _ _⟩
  · obtain ⟨hE, hO⟩ := seal_arg (k := k.b) (n := n.b) (p := p.b) (b := b.b) (by rw [HK.out.hb, HN.out.hb]; exact h1)
    have HE := veil hE
    have HO := veil hO
    clear hE hO
    by_cases h2 : k.len = 32
    · have d1 : ((k.len : Int) != 32) = false := by rw [h2]; rfl
      have d2 : ((n.len : Int) != 12) = true := by simp; omega
      go_wp2_with fail
      go_ret2
      rw [HE.out, HO.out]
      exact ⟨nilR, rfl, nilR_ok _, rfl, Below.refl _ _⟩
    · have d1 : ((k.len : Int) != 32) = true := by simp; omega
      go_wp2_with fail
      go_ret2
      rw [HE.out, HO.out]
      exact ⟨nilR, rfl, nilR_ok _, rfl, Below.refl _ _⟩
end Go.Proofs.YtbheoldakmcppaaGreatDoor
