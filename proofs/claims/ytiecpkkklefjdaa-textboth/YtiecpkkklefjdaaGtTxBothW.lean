/-
  TextBoth, walked.
-/
import Derived.Test.YtiecpkkklefjdaaGtTxAlive
import Derived.Test.YtiecpkkklefjdaaGtTxStep
namespace Go.Proofs.Ytiecpkkklefjdaa
open Go Go.RowKit

theorem shl_mark {B M : Int} (h : Tx.Bt B M) : Op.shift .shl .u8 1 .i64 (B - 1) = pure (.int .u8 (M + 1)) := by
  unfold Tx.Bt at h
  rcases h with ⟨rfl, rfl⟩ | ⟨rfl, rfl⟩ | ⟨rfl, rfl⟩ | ⟨rfl, rfl⟩ | ⟨rfl, rfl⟩ | ⟨rfl, rfl⟩ | ⟨rfl, rfl⟩ <;> rfl

theorem shl_num {B M : Int} (h : Tx.Bt B M) : (2 : Int) ^ (B.toNat - 1) % 256 = M + 1 := by
  unfold Tx.Bt at h
  rcases h with ⟨rfl, rfl⟩ | ⟨rfl, rfl⟩ | ⟨rfl, rfl⟩ | ⟨rfl, rfl⟩ | ⟨rfl, rfl⟩ | ⟨rfl, rfl⟩ | ⟨rfl, rfl⟩ <;> rfl
/-- What huff.Put answers, as a slice of new memory. -/
theorem put_new (s : ByteArray) (hs : s.size ≤ 65536) (w : World) : Calls Try.prog 16 #[.string s] w fun e w' => ∃ p : SL, e = .returned (.tuple #[.slice p.a p.len p.cap, .int .i64 0]) ∧ p.Ok w' ∧ p.b = Hf.packL (Hf.txt (bOf s)) ∧ p.len = Hf.packN (Hf.txt (bOf s)) ∧ w.heap.size ≤ p.g ∧ Below w.heap.size w w' := by
  refine (put_any s hs w).mono ?_
  rintro e w' ⟨G, C, rfl, hB, hG, hb⟩
  have hl := packL_length (Hf.txt (bOf s))
  refine ⟨bsl G (Hf.packL (Hf.txt (bOf s))), ?_, hB.ok, rfl, hl, hG, hb⟩
  show _ = Ending.returned (.tuple #[.slice (some ⟨G, 0, none⟩) (Hf.packL (Hf.txt (bOf s))).length (Hf.packL (Hf.txt (bOf s))).length, .int .i64 0])
  rw [hl]
/-- A slice of another block stands while a row grows. -/
theorem sl_grown {w w' : World} {row : Option Nat} {q : SL} (hq : q.Ok w) (h : w.grownBy w' row) (hr : 0 < q.len → some q.g ≠ row) : q.Ok w' :=
  hq.same (fun p => h.block _ (hq.lt p) (hr p)) h.size

set_option maxRecDepth 20000 in
set_option maxHeartbeats 2000000 in
theorem both_no (s : ByteArray) (B : Int) (w : World) (hs : s.size ≤ 9223372036854775807) (h : B < 2 ∨ 8 < B ∨ 17000 < s.size) : Calls Try.prog 6 #[.string s, .int .i64 B] w fun e w' => e = .returned (.bool true) ∧ Below w.heap.size w w' := by
  by_cases h1 : B < 2
  · have d1 : decide (B < 2) = true := decide_eq_true h1
    go_enter Try.func6, Try.ntmps6
    go_wp2_with fail
    refine (alive_any w).mono ?_
    rintro e1 w1 ⟨rfl, b1⟩
    go_wp2_with fail
    refine (alive_any w1).mono ?_
    rintro e2 w2 ⟨rfl, hb2⟩
    have b2 := b1.trans (hb2.mono b1.size)
    go_wp2_with fail
    go_ret
    exact ⟨rfl, b2⟩
  have d1 : decide (B < 2) = false := decide_eq_false h1
  by_cases h2 : 8 < B
  · have d2 : decide (8 < B) = true := decide_eq_true h2
    go_enter Try.func6, Try.ntmps6
    go_wp2_with fail
    refine (alive_any w).mono ?_
    rintro e1 w1 ⟨rfl, b1⟩
    go_wp2_with fail
    refine (alive_any w1).mono ?_
    rintro e2 w2 ⟨rfl, hb2⟩
    have b2 := b1.trans (hb2.mono b1.size)
    go_wp2_with fail
    go_ret
    exact ⟨rfl, b2⟩
  have d2 : decide (8 < B) = false := decide_eq_false h2
  have d3 : decide ((17000 : Int) < (s.size : Int)) = true := decide_eq_true (by omega)
  go_enter Try.func6, Try.ntmps6
  go_wp2_with fail
  refine (alive_any w).mono ?_
  rintro e1 w1 ⟨rfl, b1⟩
  go_wp2_with fail
  refine (alive_any w1).mono ?_
  rintro e2 w2 ⟨rfl, hb2⟩
  have b2 := b1.trans (hb2.mono b1.size)
  go_wp2_with fail
  go_ret
  exact ⟨rfl, b2⟩

set_option maxRecDepth 20000 in
set_option maxHeartbeats 2000000 in
theorem both_yes (s : ByteArray) (B M : Int) (w : World) (h : Tx.Bt B M) (hs : s.size ≤ 17000) : Calls Try.prog 6 #[.string s, .int .i64 B] w fun e w' => e = .returned (.bool true) ∧ Below w.heap.size w w' := by
  obtain ⟨i0, hi, hz0, hz1, hz2⟩ := info_parts Try.infoByteX
  have hbd := h.bd
  have d1 : decide (B < 2) = false := decide_eq_false (by omega)
  have d2 : decide (8 < B) = false := decide_eq_false (by omega)
  have d3 : decide ((17000 : Int) < (s.size : Int)) = false := decide_eq_false (by omega)
  have hB1 : IntKind.i64.wrap (B - 1) = B - 1 := by rw [IntKind.wrap_i64]; omega
  have hshl := shl_mark h
  have hm0 : Vi.MayPut 0 (B - 1) M s.size := by
    have := Tx.laid_may h (first := 0) (by decide) (by decide) (by simp) false (n := s.size) (by omega)
    rw [show Tx.mk M false = 0 from rfl, Int.add_zero] at this
    exact this
  have htl := Hf.txt_length_le (bOf s)
  rw [bOf_length] at htl
  have hN : Hf.packN (Hf.txt (bOf s)) ≤ 63751 := by unfold Hf.packN; omega
  have hpl : (Hf.packL (Hf.txt (bOf s))).length = Hf.packN (Hf.txt (bOf s)) := packL_length _
  have hm1 : Vi.MayPut (M + 1) (B - 1) M (Hf.packN (Hf.txt (bOf s))) := by
    have := Tx.laid_may h (first := 0) (by decide) (by decide) (by simp) true (n := Hf.packN (Hf.txt (bOf s))) (by omega)
    rw [show Tx.mk M true = M + 1 from rfl, Int.zero_add] at this
    exact this
  have hX0 := Tx.get_laid h (first := 0) (by decide) (by decide) (by simp) false (t := bOf s) (s := bOf s) (by rw [bOf_length]; omega) (by rw [bOf_length]; omega) rfl []
  rw [List.append_nil] at hX0
  have hX1 := Tx.get_laid h (first := 0) (by decide) (by decide) (by simp) true (t := Hf.packL (Hf.txt (bOf s))) (s := bOf s) (by rw [hpl]; omega) (by rw [bOf_length]; omega) (Hf.get_put _) []
  rw [List.append_nil] at hX1
  have e0 : Tx.laid 0 M false (bOf s) = Tx.toB (Vi.putP 0 M s.size) ++ bOf s := by
    unfold Tx.laid
    rw [show Tx.mk M false = 0 from rfl, Int.add_zero, bOf_length]
  have e1 : Tx.laid 0 M true (Hf.packL (Hf.txt (bOf s))) = Tx.toB (Vi.putP (M + 1) M (Hf.packN (Hf.txt (bOf s)))) ++ Hf.packL (Hf.txt (bOf s)) := by
    unfold Tx.laid
    rw [show Tx.mk M true = M + 1 from rfl, Int.zero_add, hpl]
  rw [e0] at hX0
  rw [e1] at hX1
  have hV0 := getXV_of hX0
  have hV1 := getXV_of hX1
  rw [strOf_bOf] at hV0 hV1
  have HV0 := veil hV0
  have HV1 := veil hV1
  have HM0 := veil hm0
  have HM1 := veil hm1
  have H := veil h
  have hl0 := (Vi.putP_len 0 M s.size).2
  have hl1 := (Vi.putP_len (M + 1) M (Hf.packN (Hf.txt (bOf s)))).2
  have hws : IntKind.u64.wrap (s.size : Int) = (s.size : Int) := by rw [IntKind.wrap_u64]; omega
  clear hX0 hX1 hV0 hV1 e0 e1 hm0 hm1 h htl hpl
  go_enter Try.func6, Try.ntmps6
  go_wp2_with fail
  refine (alive_any w).mono ?_
  rintro e1 w1 ⟨rfl, b1⟩
  go_wp2_with fail
  refine (pre_any 0 (B - 1) M s.size w1 HM0.out).mono ?_
  rintro e2 w2 ⟨v, rfl, ho, hb2⟩
  obtain ⟨pa, rfl, hpal, hpab, hpaok⟩ := sl_of_own ho
  have HPAL := veil hpal
  have b2 := b1.trans (hb2.mono b1.size)
  have HO2 := veil (own_low ho b1.size)
  clear ho hb2 b1 hpal hpab hpaok
  go_wp2_with fail
  refine (put_new s (by omega) w2).mono ?_
  rintro e3 w3 ⟨ph, rfl, hph, hphb, hphl, hphg, hb3⟩
  have b3 := b2.trans (hb3.mono b2.size)
  have hpa : ∀ k, (Value.slice pa.a pa.len pa.cap).ownBlock = some k → k < w2.heap.size := fun k e => (HO2.out.lt k e).2
  have HO3 := veil (own_below HO2.out hb3)
  have HPH := veil hph
  have HPHB := veil hphb
  have HPHL := veil hphl
  have HNH := veil (show some ph.g ≠ (Value.slice pa.a pa.len pa.cap).ownBlock from fun e => by have := hpa _ e.symm; omega)
  have hwp : IntKind.u64.wrap (ph.len : Int) = (ph.len : Int) := by rw [IntKind.wrap_u64]; omega
  have hphn : ph.len ≤ 63751 := by omega
  have hpa3 : ∀ k, (Value.slice pa.a pa.len pa.cap).ownBlock = some k → k < w3.heap.size := fun k e => (HO3.out.lt k e).2
  have HPA3 := veil hpa3
  clear hph hphb hphl hb3 b2 HO2 hpa hpa3 hphg
  go_wp2_with fail
  rw [shl_num H.out]
  refine (pre_any (M + 1) (B - 1) M ph.len w3 (by rw [HPHL.out]; exact HM1.out)).mono ?_
  rintro e4 w4 ⟨v4, rfl, ho4, hb4⟩
  have hl4 := (Vi.putP_len (M + 1) M ph.len).2
  obtain ⟨pc, rfl, hpcl, hpcb, hpcok⟩ := sl_of_own ho4
  have b4 := b3.trans (hb4.mono b3.size)
  have hs3 := b3.size
  have HNC := veil (show (Value.slice pc.a pc.len pc.cap).ownBlock ≠ (Value.slice pa.a pa.len pa.cap).ownBlock ∨ (Value.slice pc.a pc.len pc.cap).ownBlock = none from by
    cases hc : (Value.slice pc.a pc.len pc.cap).ownBlock with
    | none => exact .inr rfl
    | some k => exact .inl (fun e => by have h1 := (ho4.lt k hc).1; have h2 := HPA3.out k e.symm; omega))
  have HO4 := veil (own_below HO3.out hb4)
  have HPH4 := veil (HPH.out.below hb4)
  have HC4 := veil (own_low ho4 hs3)
  clear ho4 hb4 b3 HO3 HPH hpcl hpcb hpcok HPA3
  obtain ⟨C, W5, hcv, hok5, hb5⟩ := conv_text s w4
  have HOK5 := veil hok5
  have HB5 := veil (b4.trans (hb5.mono b4.size))
  have HO5 := veil (own_below HO4.out hb5)
  have HC5 := veil (own_below HC4.out hb5)
  have HPH5 := veil (HPH4.out.below hb5)
  have hs5 := HB5.out.size
  clear hok5 hb5 HO4 HC4 HPH4 b4
  go_wp2_with (with_reducible (show wpList _ _ _ (⟨some 76, Op.call _, _, _, _, _⟩ :: _) _ _); refine Hid.out ?_)
  refine show wpList _ _ _ _ _ _ from ?_
  refine append_sl rfl _ _ 22 rfl w.heap.size i0 Try.underlying22 hi hz0 hz1 hz2 _ _ _ rfl HO5.out (textS w4.heap.size s C) HOK5.out rfl (by show _ + s.size ≤ _; omega) hs5 ?_
  intro v6 w6 ho6 hg6
  have HB6 := veil (HB5.out.grown hg6 hs5 (fun k e => (HO5.out.lt k e).1))
  have HC6 := veil (HC5.out.kept hg6 HNC.out.symm)
  have HPH6 := veil (sl_grown HPH5.out hg6 (fun _ => HNH.out))
  obtain ⟨p6, rfl, hl6, hpb6, hok6⟩ := sl_of_own ho6
  have HPB6 := veil (show p6.b = Tx.toB (Vi.putP 0 M s.size) ++ bOf s from hpb6)
  have HOK6 := veil hok6
  have HL6 := veil (show p6.len = (Vi.putP 0 M s.size).length + s.size from hl6)
  clear hg6 ho6 hpb6 hok6 hl6 HB5 HC5 HPH5 HO5 HOK5
  go_wp2_with fail
  refine (xget_any p6 B M w6 H.out HOK6.out (by have := HL6.out; omega)).mono ?_
  rintro e7 w7 ⟨rfl, hb7⟩
  rw [HPB6.out, HV0.out]
  have HB7 := veil (HB6.out.trans (hb7.mono HB6.out.size))
  have HC7 := veil (own_below HC6.out hb7)
  have HPH7 := veil (HPH6.out.below hb7)
  have hs7 := HB7.out.size
  clear hb7 HB6 HC6 HPH6 HOK6
  go_wp2_with (with_reducible (show wpList _ _ _ (⟨some 86, Op.call _, _, _, _, _⟩ :: _) _ _); refine Hid.out ?_)
  refine show wpList _ _ _ _ _ _ from ?_
  refine append_sl rfl _ _ 22 rfl w.heap.size i0 Try.underlying22 hi hz0 hz1 hz2 _ _ _ rfl HC7.out ph HPH7.out rfl (by omega) hs7 ?_
  intro v8 w8 ho8 hg8
  have HB8 := veil (HB7.out.grown hg8 hs7 (fun k e => (HC7.out.lt k e).1))
  obtain ⟨p8, rfl, hl8, hpb8, hok8⟩ := sl_of_own ho8
  have HPB8 := veil (show p8.b = Tx.toB (Vi.putP (M + 1) M ph.len) ++ ph.b from hpb8)
  have HOK8 := veil hok8
  have HL8 := veil (show p8.len = (Vi.putP (M + 1) M ph.len).length + ph.len from hl8)
  clear hg8 ho8 hpb8 hok8 hl8 HB7 HC7 HPH7
  go_wp2_with fail
  refine (xget_any p8 B M w8 H.out HOK8.out (by have := HL8.out; omega)).mono ?_
  rintro e9 w9 ⟨rfl, hb9⟩
  rw [HPB8.out, HPHB.out, HPHL.out, HV1.out]
  have HB9 := veil (HB8.out.trans (hb9.mono HB8.out.size))
  clear hb9 HB8
  go_wp2_with fail
  go_ret
  exact ⟨rfl, HB9.out⟩
theorem both_walk (s : ByteArray) (B : Int) (w : World) (hs : s.size ≤ 9223372036854775807) : Calls Try.prog 6 #[.string s, .int .i64 B] w fun e w' => e = .returned (.bool true) ∧ Below w.heap.size w w' := by
  by_cases h : 2 ≤ B ∧ B ≤ 8 ∧ s.size ≤ 17000
  · obtain ⟨M, hM⟩ := Tx.Bt.of B h.1 h.2.1
    exact both_yes s B M w hM h.2.2
  · exact both_no s B w hs (by omega)
end Go.Proofs.Ytiecpkkklefjdaa
