/-
  What the document's Sum answers.
-/
import Derived.Test.YtffokggejbmadaaGreatDoorGz9
import Derived.Test.YtffokggejbmadaaGreatDoorGzChaRefXor
import Derived.Test.YtffokggejbmadaaGreatDoorGz6
namespace Go.Proofs.YtffokggejbmadaaGreatDoor
open Go Go.RowKit

theorem own_slR {w : World} {base : Nat} {v : Value} {n : Nat} {xs : List By} (h : w.ownsRow base 5 1 v n (vb xs)) : ∃ s : SL, v = .slice s.a s.len s.cap ∧ s.len = n ∧ s.b = xs ∧ s.Ok w := by
  obtain ⟨s, h1, h2, h3, h4, _⟩ := SL.of_own h
  exact ⟨s, h1.symm, h2, h3, h4⟩
theorem own_belowB {w w' : World} {B n : Nat} {e : TypeId} {v : Value} {xs : List Value} (h : w.ownsRow B e 1 v n xs) (hb : Below w.heap.size w w') : w'.ownsRow B e 1 v n xs := own_below h hb

set_option maxRecDepth 20000 in
set_option maxHeartbeats 2000000 in
theorem refSum_any (key nonce : List By) (hk : key.length = 32) (hn : nonce.length = 12) (h b : SL) (w : World) (hh : h.Ok w) (hb : b.Ok w) (hl : h.len ≤ 1048576) (bl : b.len ≤ 1048576) :
    Calls Tryz.prog 23 #[.agg (bs key), .agg (bs nonce), .slice h.a h.len h.cap, .slice b.a b.len b.cap] w fun e w' => e = .returned (.agg (bs (markL key nonce h.b b.b))) ∧ Below w.heap.size w w' := by
  obtain ⟨i0, hi, hz0, hz1, hz2⟩ := info_parts (P := Tryz.prog) (e := 5) (z := .int .u8 0) (size := 1) (bytes := 1) (by kernel_rfl)
  obtain ⟨W0, hW0⟩ : ∃ W0, W0 = ((w.alloc (.cells (bs key) 49)).alloc (.cells (bs nonce) 50)).alloc (.cells (bs z16) 55) := ⟨_, rfl⟩
  have q0 : Row W0 w.heap.size 49 (bs key) := by rw [hW0]; exact ((Row.new _ _ _).alloc _).alloc _
  have q1 : Row W0 (w.heap.size + 1) 50 (bs nonce) := by rw [hW0]; exact (Row.new1 _ _ _ _).alloc _
  have q2 : Row W0 (w.heap.size + 1 + 1) 55 (bs z16) := by rw [hW0]; exact Row.new2 _ _ _ _ _
  have b0 : Below w.heap.size w W0 := by rw [hW0]; exact (((Below.refl _ w).alloc (Nat.le_refl _) _).alloc (by simp) _).alloc (by simp; omega) _
  have hkz : (bs key).size = 32 := by rw [bs_size, hk]
  have hnz : (bs nonce).size = 12 := by rw [bs_size, hn]
  have HK := veil hk
  have HN := veil hn
  have HH := veil (hh.below b0)
  have HB := veil (hb.below b0)
  have hhb := hh.hb
  have hbb := hb.hb
  have HW0 := veil hW0
  have HHL := veil hl
  have HBL := veil bl
  have hs0 := b0.size
  have HQ0 := veil q0
  have HQ1 := veil q1
  have HQ2 := veil q2
  have HB0 := veil b0
  have hl2 := q2.lt
  have hl1 := q1.lt
  have hl0 := q0.lt
  clear hk hn hh hb hW0 hl bl q0 q1 q2 b0
  go_enter Tryz.func23, Tryz.ntmps23
  go_wp2_with (first
    | (with_reducible (show wpList _ _ _ (⟨_, Op.alloc 55, _, _, _, _⟩ :: _) _ _)
       refine alloc_row rfl 55 rfl (bs z16) (by kernel_rfl) ?_)
    | (with_reducible (show wpList _ _ _ (⟨some 15, Op.call _, _, _, _, _⟩ :: _) _ _)
       rw [← HW0.out]
       refine append_sl rfl _ _ 22 rfl W0.heap.size i0 Tryz.underlying22 hi hz0 hz1 hz2 _ 0 [] rfl (World.ownsRow_nil _ _ _ _) b HB.out rfl (by have := HBL.out; omega) (Nat.le_refl _) ?_
       intro v1 w1 hown1 hgrow1))
  obtain ⟨a1, c1, rfl⟩ := own_shape hown1
  have HB1 := veil ((Below.refl _ W0).grown hgrow1 (Nat.le_refl _) (fun q e => by cases e))
  have HO1 : Hid (w1.ownsRow W0.heap.size 5 1 (.slice a1 b.len c1) b.len (vb b.b)) := show World.ownsRow _ _ _ _ _ _ _ by
    have := hown1
    rw [Nat.zero_add, List.nil_append] at this
    exact this
  rw [Nat.zero_add]
  clear hown1 hgrow1
  refine (refFilled_any W0.heap.size a1 b.len c1 b.b w1 HB1.out.size (by have := HBL.out; omega) HO1.out).mono ?_
  rintro e2 w2 ⟨a2, c2, rfl, own2, hb2⟩
  have HB2 := veil (HB1.out.trans hb2)
  have HO2 := veil own2
  have hs2 := HB2.out.size
  have hp1 := pad16_lt b.len
  obtain ⟨N2, hN2⟩ : ∃ N2, N2 = b.len + pad16 b.len := ⟨_, rfl⟩
  rw [← hN2] at HO2 ⊢
  have HN2 := veil hN2
  have HN2B : Hid (N2 ≤ 1048592) := show _ ≤ _ by have := HBL.out; omega
  clear own2 hb2 HO1 HB1 hN2
  go_wp2_with (with_reducible (show wpList _ _ _ (⟨some 19, Op.call _, _, _, _, _⟩ :: _) _ _)
               refine append_sl rfl _ _ 22 rfl W0.heap.size i0 Tryz.underlying22 hi hz0 hz1 hz2 _ N2 _ rfl HO2.out h (HH.out.below HB2.out) rfl (by have := HHL.out; have := HN2B.out; omega) hs2 ?_
               intro v3 w3 hown3 hgrow3)
  obtain ⟨a3, c3, rfl⟩ := own_shape hown3
  have HB3 := veil (HB2.out.grown hgrow3 hs2 (fun z e => (HO2.out.lt z e).1))
  have HO3 := veil hown3
  clear hown3 hgrow3 HO2 HB2
  refine (refFilled_any W0.heap.size a3 (N2 + h.len) c3 (fillL b.b ++ h.b) w3 HB3.out.size (by have := HHL.out; have := HN2B.out; omega) HO3.out).mono ?_
  rintro e4 w4 ⟨a4, c4, rfl, own4, hb4⟩
  have HB4 := veil (HB3.out.trans hb4)
  have hp2 := pad16_lt (N2 + h.len)
  have eF : fillL (fillL b.b ++ h.b) = fillL b.b ++ h.b ++ List.replicate (pad16 h.b.length) 0 := taggedL_fill _ _
  rw [eF] at own4
  obtain ⟨N4, hN4⟩ : ∃ N4, N4 = N2 + h.len + pad16 (N2 + h.len) := ⟨_, rfl⟩
  rw [← hN4] at own4 ⊢
  have HO4 := veil own4
  have HN4B : Hid (N4 ≤ 2500000) := show _ ≤ _ by have := HHL.out; have := HN2B.out; omega
  have hs4 := HB4.out.size
  clear own4 hb4 HO3 HB3 hN4 eF
  go_wp2_with fail
  refine (refEight_any W0.heap.size a4 N4 c4 b.len _ w4 hs4 (by have := HN4B.out; omega) (by have := HBL.out; omega) HO4.out).mono ?_
  rintro e5 w5 ⟨a5, c5, rfl, own5, hb5⟩
  have HB5 := veil (HB4.out.trans hb5)
  have HO5 := veil own5
  have hs5 := HB5.out.size
  clear own5 hb5 HO4 HB4
  go_wp2_with fail
  refine (refEight_any W0.heap.size a5 (N4 + 8) c5 h.len _ w5 hs5 (by have := HN4B.out; omega) (by have := HHL.out; omega) HO5.out).mono ?_
  rintro e6 w6 ⟨a6, c6, rfl, own6, hb6⟩
  have HB6 := veil (HB5.out.trans hb6)
  have eT : fillL b.b ++ h.b ++ List.replicate (pad16 h.b.length) 0 ++ eightL b.len ++ eightL h.len = taggedL b.b h.b := by
    unfold taggedL
    rw [hhb, hbb]
  rw [eT] at own6
  have HO6 := veil own6
  have hs6 := HB6.out.size
  clear own6 hb6 HO5 HB5 eT
  obtain ⟨N6, hN6⟩ : ∃ N6, N6 = N4 + 8 + 8 := ⟨_, rfl⟩
  rw [← hN6] at HO6 ⊢
  have HN6B : Hid (N6 ≤ 4194304) := show _ ≤ _ by have := HN4B.out; omega
  clear hN6
  have q0 := HQ0.out.below HB6.out hl0
  have q1 := HQ1.out.below HB6.out hl1
  go_wp2_with (first
    | (with_reducible (show wpList _ _ _ (⟨_, Op.load 49 _, _, _, _, _⟩ :: _) _ _)
       refine load_row rfl 49 _ rfl w.heap.size rfl _ _ q0 32 5 Tryz.underlying49 (by kernel_rfl) hkz ?_)
    | (with_reducible (show wpList _ _ _ (⟨_, Op.load 50 _, _, _, _, _⟩ :: _) _ _)
       refine load_row rfl 50 _ rfl (w.heap.size + 1) rfl _ _ q1 12 5 Tryz.underlying50 (by kernel_rfl) hnz ?_))
  refine (refBlock_any key 0 nonce HK.out HN.out w6).mono ?_
  rintro e7 w7 ⟨rfl, hb7⟩
  have hbl := blockL_length key 0 nonce
  obtain ⟨B, hB⟩ : ∃ B, B = blockL key 0 nonce := ⟨_, rfl⟩
  rw [← hB] at hbl ⊢
  have HBB := veil hB
  have hbz : (bs B).size = 64 := by rw [bs_size, hbl]
  have b7 := HB6.out.trans (hb7.mono hs6)
  have own7 := own_below HO6.out hb7
  have b8 := b7.alloc b7.size (.cells (bs B) 70)
  have r8 : Row (w7.alloc (.cells (bs B) 70)) w7.heap.size 70 (bs B) := Row.new _ _ _
  have own8 := own7.alloc (.cells (bs B) 70)
  have HB8 := veil b8
  have HO8 := veil own8
  clear hB hb7 b7 own7 HO6 q0 q1 b8 own8
  go_wp2_with (first
    | (with_reducible (show wpList _ _ _ (⟨_, Op.alloc 70, _, _, _, _⟩ :: _) _ _)
       refine alloc_row rfl 70 rfl (bs (List.replicate 64 0)) (by kernel_rfl) ?_)
    | (with_reducible (show wpList _ _ _ (⟨_, Op.store 70 _ _, _, _, _, _⟩ :: _) _ _)
       refine store_new (w := w7) (by rfl) 70 _ _ (by rfl) w7.heap.size (bs B) (by rfl) (by rfl) 70 (bs (List.replicate 64 0)) (by rfl) 64 (by kernel_rfl) (by rfl) hbz (bs_one _) ?_))
  have sl8 := slice_ok r8 0 32 64 (by omega) (by omega)
  refine (refkey32_any _ _ sl8 rfl).mono ?_
  rintro e9 w9 ⟨rfl, hb9⟩
  have eO : ((B.drop 0).take 32) = B.take 32 := by rw [List.drop_zero]
  simp only []
  rw [eO]
  have hol : (B.take 32).length = 32 := by rw [List.length_take, hbl]; rfl
  obtain ⟨O, hO⟩ : ∃ O, O = B.take 32 := ⟨_, rfl⟩
  rw [← hO] at hol ⊢
  have HOO := veil hO
  have b9 := HB8.out.trans (hb9.mono HB8.out.size)
  have own9 := own_below HO8.out hb9
  obtain ⟨l, hlv, hll, hlb, hlok⟩ := own_slR own9
  have HLV := veil hlv
  have HLL := veil hll
  have HLBB := veil hlb
  have HLOK := veil hlok
  have HB9 := veil b9
  have hs9 := b9.size
  clear hO eO hb9 b9 own9 HB8 HO8 r8 sl8 hlv hll hlb hlok
  go_wp2_with fail
  rw [HLV.out]
  refine (refTag_any O hol l w9 HLOK.out (by rw [HLL.out]; exact HN6B.out)).mono ?_
  rintro e10 w10 ⟨rfl, hb10⟩
  have eM : tagL O l.b = markL key nonce h.b b.b := by
    rw [HLBB.out, HOO.out, HBB.out]
    rfl
  rw [eM]
  have hml := markL_length key nonce h.b b.b
  obtain ⟨M, hM⟩ : ∃ M, M = markL key nonce h.b b.b := ⟨_, rfl⟩
  rw [← hM] at hml ⊢
  have HM := veil hM
  have hmz : (bs M).size = 16 := by rw [bs_size, hml]
  have hz16 : (bs z16).size = 16 := by rw [bs_size]; rfl
  have b10 := HB9.out.trans (hb10.mono hs9)
  have b11 := b10.alloc b10.size (.cells (bs M) 55)
  have r11 : Row (w10.alloc (.cells (bs M) 55)) w10.heap.size 55 (bs M) := Row.new _ _ _
  have q11 := HQ2.out.below b11 hl2
  have bw := HB0.out.trans (b11.mono hs0)
  clear hM eM hb10 b10 b11
  go_wp2_with (first
    | (with_reducible (show wpList _ _ _ (⟨_, Op.alloc 55, _, _, _, _⟩ :: _) _ _)
       refine alloc_row rfl 55 rfl (bs z16) (by kernel_rfl) ?_)
    | (with_reducible (show wpList _ _ _ (⟨_, Op.store 55 (.tmp 11) _, _, _, _, _⟩ :: _) _ _)
       refine store_new (w := w10) (by rfl) 55 _ _ (by rfl) w10.heap.size (bs M) (by rfl) (by rfl) 55 (bs z16) (by rfl) 16 (by kernel_rfl) (by rfl) hmz (bs_one _) ?_)
    | (with_reducible (show wpList _ _ _ (⟨_, Op.load 55 _, _, _, _, _⟩ :: _) _ _)
       refine load_row rfl 55 _ rfl w10.heap.size rfl _ _ r11 16 5 Tryz.underlying55 (by kernel_rfl) hmz ?_)
    | (with_reducible (show wpList _ _ _ (⟨_, Op.store 55 (.tmp 8) _, _, _, _, _⟩ :: _) _ _)
       refine store_row rfl 55 _ _ rfl (w.heap.size + 1 + 1) (bs M) rfl rfl _ _ q11 16 (by kernel_rfl) hz16 hmz (bs_one _) ?_))
  refine bodyPost_ret (result_row rfl _ _ (w.heap.size + 1 + 1) _ _ (q11.put _) 16 5 rfl Tryz.underlying55 (by kernel_rfl) hmz) rfl ⟨by rw [HM.out], bSetRow bw (by omega) _⟩
end Go.Proofs.YtffokggejbmadaaGreatDoor
