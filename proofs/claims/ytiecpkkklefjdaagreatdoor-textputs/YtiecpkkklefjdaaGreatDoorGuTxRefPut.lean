/-
  What the document's Put of a text answers.
-/
import Derived.Test.YtiecpkkklefjdaaGreatDoorGuTxPutZ
import Derived.Test.YtiecpkkklefjdaaGreatDoorGuTxTwo
import Derived.Test.YtiecpkkklefjdaaGreatDoorGuTxVarU
import Derived.Test.YtiecpkkklefjdaaGreatDoorGuHfRefPw
namespace Go.Proofs.YtiecpkkklefjdaaGreatDoor
open Go Go.RowKit

/-- The document's PutPrefix, in these words. -/
theorem rpre_any (first B M : Int) (n : Nat) (w : World) (h : Vi.MayPut first B M n) :
    Calls Tryz.prog 21 #[.int .u8 first, .int .i64 B, .int .u64 (n : Int)] w fun e w' => ∃ v, e = .returned (.tuple #[v, .int .i64 0]) ∧ w'.ownsRow w.heap.size 5 1 v (Vi.putP first M n).length (vb (Tx.toB (Vi.putP first M n))) ∧ Below w.heap.size w w' := by
  refine (Vi.refp_own first B M n w h.mask h.f0 h.f1 h.n0 h.n1 h.fm).mono ?_
  rintro e w' ⟨g, cap, rfl, h1, h2⟩
  refine ⟨_, rfl, ?_, h2⟩
  rw [← zs_vb _ (Vi.putP_bytes h)]
  exact h1.2

set_option maxHeartbeats 1000000 in
theorem xrput_bits (first B : Int) (s : ByteArray) (w : World) (h : B < 2 ∨ 8 < B) :
    Calls Tryz.prog 6 #[.int .u8 first, .int .i64 B, .string s] w fun e w' => e = .returned (.tuple #[.slice none 0 0, .int .i64 1]) ∧ Below w.heap.size w w' := by
  rcases h with h | h
  · have g1 : decide (B < 2) = true := decide_eq_true h
    go_enter Tryz.func6, Tryz.ntmps6
    go_wp2
    go_ret2
    exact ⟨rfl, Below.refl _ _⟩
  · have g1 : decide (B < 2) = false := decide_eq_false (by omega)
    have g2 : decide (8 < B) = true := decide_eq_true h
    go_enter Tryz.func6, Tryz.ntmps6
    go_wp2
    go_ret2
    exact ⟨rfl, Below.refl _ _⟩
set_option maxHeartbeats 1000000 in
theorem xrput_first (first B M : Int) (s : ByteArray) (w : World) (h : Tx.Bt B M) (f0 : 0 ≤ first) (f1 : first ≤ 255) (hf : first % (2 * M + 2) ≠ 0) :
    Calls Tryz.prog 6 #[.int .u8 first, .int .i64 B, .string s] w fun e w' => e = .returned (.tuple #[.slice none 0 0, .int .i64 1]) ∧ Below w.heap.size w w' := by
  have hbd := h.bd
  have g1 : decide (B < 2) = false := decide_eq_false (by omega)
  have g2 : decide (8 < B) = false := decide_eq_false (by omega)
  obtain ⟨D, hD⟩ : ∃ D, D = 2 * M + 2 := ⟨_, rfl⟩
  have H2 := veil (two_all B M h)
  rw [← hD] at H2 hf
  have hD0 : ¬ D = 0 := by omega
  have hD1 : (D == 0) = false := by simp; omega
  obtain ⟨r, hr⟩ : ∃ r, r = first % D := ⟨_, rfl⟩
  have hr1 : first.tmod D = r := by rw [hr, Int.tmod_eq_emod_of_nonneg f0]
  have hr2 : first % D = r := hr.symm
  have hne : (r != 0) = true := by rw [hr]; simpa using hf
  have hw : IntKind.i64.wrap first = first := by rw [IntKind.wrap_i64]; omega
  clear hr hf hD h
  go_enter Tryz.func6, Tryz.ntmps6
  go_wp2_with fail
  refine (H2.out w).mono ?_
  rintro e2 w2 ⟨rfl, rfl⟩
  go_wp2
  go_ret2
  exact ⟨rfl, Below.refl _ _⟩
set_option maxHeartbeats 1000000 in
theorem xrput_limit (first B M : Int) (s : ByteArray) (w : World) (h : Tx.Bt B M) (f0 : 0 ≤ first) (f1 : first ≤ 255) (hf : first % (2 * M + 2) = 0) (hs : 65536 < s.size) (hm : s.size ≤ 9223372036854775807) :
    Calls Tryz.prog 6 #[.int .u8 first, .int .i64 B, .string s] w fun e w' => e = .returned (.tuple #[.slice none 0 0, .int .i64 3]) ∧ Below w.heap.size w w' := by
  have hbd := h.bd
  have g1 : decide (B < 2) = false := decide_eq_false (by omega)
  have g2 : decide (8 < B) = false := decide_eq_false (by omega)
  obtain ⟨D, hD⟩ : ∃ D, D = 2 * M + 2 := ⟨_, rfl⟩
  have H2 := veil (two_all B M h)
  rw [← hD] at H2 hf
  have hD0 : ¬ D = 0 := by omega
  have hD1 : (D == 0) = false := by simp; omega
  have hr1 : first.tmod D = 0 := by rw [Int.tmod_eq_emod_of_nonneg f0, hf]
  have hw : IntKind.i64.wrap first = first := by rw [IntKind.wrap_i64]; omega
  have hI : (s.size : Int) > 65536 := by omega
  clear hD h
  go_enter Tryz.func6, Tryz.ntmps6
  go_wp2_with fail
  refine (H2.out w).mono ?_
  rintro e2 w2 ⟨rfl, rfl⟩
  go_wp2
  go_ret2
  exact ⟨rfl, Below.refl _ _⟩
set_option maxRecDepth 20000 in
set_option maxHeartbeats 2000000 in
theorem xrput_any (first B M : Int) (s : ByteArray) (w : World) (h : Tx.Bt B M) (f0 : 0 ≤ first) (f1 : first ≤ 255) (hf : first % (2 * M + 2) = 0) (hs : s.size ≤ 65536) :
    Calls Tryz.prog 6 #[.int .u8 first, .int .i64 B, .string s] w fun e w' => ∃ v, e = .returned (.tuple #[v, .int .i64 0]) ∧ w'.ownsRow w.heap.size 5 1 v (Tx.putX first M (bOf s)).length (vb (Tx.putX first M (bOf s))) ∧ Below w.heap.size w w' := by
  obtain ⟨i0, hi, hz0, hz1, hz2⟩ := info_parts Tryz.infoByteX
  have hbd := h.bd
  have g1 : decide (B < 2) = false := decide_eq_false (by omega)
  have g2 : decide (8 < B) = false := decide_eq_false (by omega)
  have HF := veil hf
  obtain ⟨D, hD⟩ : ∃ D, D = 2 * M + 2 := ⟨_, rfl⟩
  have H2 := veil (two_all B M h)
  rw [← hD] at H2 hf
  have hD0 : ¬ D = 0 := by omega
  have hD1 : (D == 0) = false := by simp; omega
  have hr1 : first.tmod D = 0 := by rw [Int.tmod_eq_emod_of_nonneg f0, hf]
  have hw : IntKind.i64.wrap first = first := by rw [IntKind.wrap_i64]; omega
  have hI : ¬ (s.size : Int) > 65536 := by omega
  have hpl : (Hf.packL (Hf.txt (bOf s))).length = Hf.packN (Hf.txt (bOf s)) := packL_length _
  have htl := Hf.txt_length_le (bOf s)
  rw [bOf_length] at htl
  have HPL := veil hpl
  have hN : Hf.packN (Hf.txt (bOf s)) ≤ 262144 := by unfold Hf.packN; omega
  have hB1 : IntKind.i64.wrap (B - 1) = B - 1 := by rw [IntKind.wrap_i64]; omega
  have H := veil h
  obtain ⟨d, hd⟩ : ∃ d : Nat, M + 1 = (d : Int) := ⟨(M + 1).toNat, by omega⟩
  have HD := veil hd
  have htop := (h.laid first f0 f1 HF.out true).2.1
  rw [show Tx.mk M true = M + 1 from rfl, hd] at htop
  have hwd : IntKind.u8.wrap (d : Int) = (d : Int) := by rw [IntKind.wrap_u8]; omega
  have hwa : IntKind.u8.wrap (first + (d : Int)) = first + (d : Int) := by rw [IntKind.wrap_u8]; omega
  obtain ⟨C, W1, hcv, hok1, hb1⟩ := conv_text s w
  have HOK1 := veil hok1
  have HB1 := veil hb1
  have hs1 := hb1.size
  clear hpl htl hD h hd hok1 hb1 hf
  go_enter Tryz.func6, Tryz.ntmps6
  go_wp2_with fail
  refine (H2.out w).mono ?_
  rintro e2 w2 ⟨rfl, hw2⟩
  obtain rfl := hw2.symm
  go_wp2_with fail
  refine (lenR_any s (by omega) W1).mono ?_
  rintro e3 w3 ⟨rfl, hb3⟩
  have HB3 := veil (HB1.out.trans (hb3.mono hs1))
  have HOK3 := veil (HOK1.out.below hb3)
  have hs3 := HB3.out.size
  clear hb3 HB1 HOK1 hcv
  by_cases hfew : Hf.packN (Hf.txt (bOf s)) < s.size
  · have hd1 : decide (Hf.packN (Hf.txt (bOf s)) < s.size) = true := decide_eq_true hfew
    have hX : Tx.putX first M (bOf s) = Tx.toB (Vi.putP (first + (d : Int)) M (Hf.packN (Hf.txt (bOf s)))) ++ Hf.packL (Hf.txt (bOf s)) := by
      unfold Tx.putX Tx.laid Tx.told Tx.few Tx.mk
      rw [bOf_length, decide_eq_true hfew, if_pos rfl, if_pos rfl, HPL.out, HD.out]
    have hXl : (Tx.putX first M (bOf s)).length = (Vi.putP (first + (d : Int)) M (Hf.packN (Hf.txt (bOf s)))).length + Hf.packN (Hf.txt (bOf s)) := by
      rw [hX, List.length_append, Tx.toB_length, HPL.out]
    have HX := veil hX
    have HXl := veil hXl
    have HM := veil (show Vi.MayPut (first + (d : Int)) (B - 1) M (Hf.packN (Hf.txt (bOf s))) from by
      have := Tx.laid_may H.out f0 f1 HF.out true hN
      rw [show Tx.mk M true = M + 1 from rfl, HD.out] at this
      exact this)
    clear hX hXl
    go_wp2_with fail
    refine (putR_any s (by omega) w3).mono ?_
    rintro e4 w4 ⟨vt, rfl, ho4, hb4⟩
    rw [HPL.out] at ho4
    obtain ⟨p, h1, h2, h3, h4, _⟩ := SL.of_own ho4
    have h1' : Value.slice p.a p.len p.cap = vt := h1
    subst h1'
    have HP4 := veil h4
    have HPB := veil h3
    have HB4 := veil (HB3.out.trans (hb4.mono hs3))
    have hs4 := HB4.out.size
    have HPN := veil h2
    have hpn : p.len ≤ 262144 := by omega
    have hwp : IntKind.u64.wrap (p.len : Int) = (p.len : Int) := by rw [IntKind.wrap_u64]; omega
    clear ho4 h1 h2 h3 h4 hb4 HB3 HOK3
    go_wp2_with fail
    refine (two_low B M d H.out HD.out w4).mono ?_
    rintro e5 w5 ⟨rfl, hw5⟩
    obtain rfl := hw5.symm
    go_wp2_with fail
    refine (rpre_any (first + (d : Int)) (B - 1) M p.len w4 (by rw [HPN.out]; exact HM.out)).mono ?_
    rintro e6 w6 ⟨v6, rfl, ho6, hb6⟩
    have hl6 := (Vi.putP_len (first + (d : Int)) M p.len).2
    obtain ⟨a6, c6, rfl⟩ := own_ptr ho6
    have HO6 := veil (own_low ho6 hs4)
    have HP6 := veil (HP4.out.below hb6)
    have HB6 := veil (HB4.out.trans (hb6.mono hs4))
    have hs6 := HB6.out.size
    clear ho6 hb6 HB4 HP4
    go_wp2_with (with_reducible (show wpList _ _ _ (⟨some 58, Op.call _, _, _, _, _⟩ :: _) _ _); refine Hid.out ?_)
    refine show wpList _ _ _ _ _ _ from ?_
    refine append_sl rfl _ _ 23 rfl w.heap.size i0 Tryz.underlying23 hi hz0 hz1 hz2 _ _ _ rfl HO6.out p HP6.out rfl (by omega) hs6 ?_
    intro v7 w7 ho7 hg7
    have HB7 := veil (HB6.out.grown hg7 hs6 (fun k e => (HO6.out.lt k e).1))
    rw [HPB.out, HPN.out] at ho7
    have HO7 := veil ho7
    clear hg7 ho7
    go_wp2_with fail
    go_ret2
    refine ⟨v7, rfl, ?_, HB7.out⟩
    rw [HXl.out, HX.out]
    exact HO7.out
  · have hd1 : decide (Hf.packN (Hf.txt (bOf s)) < s.size) = false := decide_eq_false hfew
    have hX : Tx.putX first M (bOf s) = Tx.toB (Vi.putP first M s.size) ++ bOf s := by
      unfold Tx.putX Tx.laid Tx.told Tx.few Tx.mk
      rw [bOf_length, decide_eq_false hfew, if_neg (by simp), if_neg (by simp), bOf_length, Int.add_zero]
    have hXl : (Tx.putX first M (bOf s)).length = (Vi.putP first M s.size).length + s.size := by
      rw [hX, List.length_append, Tx.toB_length, bOf_length]
    have HX := veil hX
    have HXl := veil hXl
    have HM := veil (show Vi.MayPut first (B - 1) M s.size from by
      have := Tx.laid_may H.out f0 f1 HF.out false (n := s.size) (by omega)
      rw [show Tx.mk M false = 0 from rfl, Int.add_zero] at this
      exact this)
    have hwp : IntKind.u64.wrap (s.size : Int) = (s.size : Int) := by rw [IntKind.wrap_u64]; omega
    clear hX hXl
    go_wp2_with fail
    refine (rpre_any first (B - 1) M s.size w3 HM.out).mono ?_
    rintro e6 w6 ⟨v6, rfl, ho6, hb6⟩
    have hl6 := (Vi.putP_len first M s.size).2
    obtain ⟨a6, c6, rfl⟩ := own_ptr ho6
    have HO6 := veil (own_low ho6 hs3)
    have HP6 := veil (HOK3.out.below hb6)
    have HB6 := veil (HB3.out.trans (hb6.mono hs3))
    have hs6 := HB6.out.size
    clear ho6 hb6 HB3 HOK3
    go_wp2_with (with_reducible (show wpList _ _ _ (⟨some 58, Op.call _, _, _, _, _⟩ :: _) _ _); refine Hid.out ?_)
    refine show wpList _ _ _ _ _ _ from ?_
    refine append_sl rfl _ _ 23 rfl w.heap.size i0 Tryz.underlying23 hi hz0 hz1 hz2 _ _ _ rfl HO6.out (textS w.heap.size s C) HP6.out rfl (by show _ + s.size ≤ _; omega) hs6 ?_
    intro v7 w7 ho7 hg7
    have HB7 := veil (HB6.out.grown hg7 hs6 (fun k e => (HO6.out.lt k e).1))
    have HO7 := veil (show w7.ownsRow w.heap.size 5 1 v7 ((Vi.putP first M s.size).length + s.size) (vb (Tx.toB (Vi.putP first M s.size) ++ bOf s)) from ho7)
    clear hg7 ho7
    go_wp2_with fail
    go_ret2
    refine ⟨v7, rfl, ?_, HB7.out⟩
    rw [HXl.out, HX.out]
    exact HO7.out
end Go.Proofs.YtiecpkkklefjdaaGreatDoor
