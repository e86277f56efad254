/-
  What text.Put answers.
-/
import Derived.Test.YtiecpkkklefjdaaGreatDoorGuTxPlain
import Derived.Test.YtiecpkkklefjdaaGreatDoorGuHfLawZ
import Derived.Lib.ConvBytes
import Derived.Deep.RegionHeld3
namespace Go.Proofs.YtiecpkkklefjdaaGreatDoor
open Go Go.RowKit

theorem txMay_yes (b : Int) (w : World) (h0 : 2 ≤ b) (h1 : b ≤ 8) :
    Calls Tryz.prog 10 #[.int .i64 b] w fun e w' => e = .returned (.bool true) ∧ w' = w := by
  go_enter Tryz.func10, Tryz.ntmps10
  go_wp2
  go_ret
  exact ⟨rfl, rfl⟩
theorem txMay_no (b : Int) (w : World) (h : b < 2 ∨ 8 < b) :
    Calls Tryz.prog 10 #[.int .i64 b] w fun e w' => e = .returned (.bool false) ∧ w' = w := by
  rcases h with h | h
  · have h2 : decide (2 ≤ b) = false := by simp; omega
    go_enter Tryz.func10, Tryz.ntmps10
    go_wp2
    go_ret
    exact ⟨rfl, rfl⟩
  · have h2 : decide (2 ≤ b) = true := by simp; omega
    have h3 : decide (b ≤ 8) = false := by simp; omega
    go_enter Tryz.func10, Tryz.ntmps10
    go_wp2
    go_ret
    exact ⟨rfl, rfl⟩
set_option maxHeartbeats 1000000 in
theorem txLow_any (B M : Int) (w : World) (h : Tx.Bt B M) :
    Calls Tryz.prog 11 #[.int .i64 B] w fun e w' => e = .returned (.int .u8 (2 * M + 1)) ∧ w' = w := by
  unfold Tx.Bt at h
  rcases h with ⟨rfl, rfl⟩ | ⟨rfl, rfl⟩ | ⟨rfl, rfl⟩ | ⟨rfl, rfl⟩ | ⟨rfl, rfl⟩ | ⟨rfl, rfl⟩ | ⟨rfl, rfl⟩
  all_goals
    go_enter Tryz.func11, Tryz.ntmps11
    go_wp2
    go_ret
    exact ⟨rfl, rfl⟩
set_option maxHeartbeats 1000000 in
theorem txMark_any (B M : Int) (w : World) (h : Tx.Bt B M) :
    Calls Tryz.prog 14 #[.int .i64 B] w fun e w' => e = .returned (.int .u8 (M + 1)) ∧ w' = w := by
  unfold Tx.Bt at h
  rcases h with ⟨rfl, rfl⟩ | ⟨rfl, rfl⟩ | ⟨rfl, rfl⟩ | ⟨rfl, rfl⟩ | ⟨rfl, rfl⟩ | ⟨rfl, rfl⟩ | ⟨rfl, rfl⟩
  all_goals
    go_enter Tryz.func14, Tryz.ntmps14
    go_wp2
    go_ret
    exact ⟨rfl, rfl⟩

/-- A text's bytes, as a slice. -/
def textS (g : Nat) (s : ByteArray) (C : Nat) : SL := ⟨some ⟨g, 0, none⟩, s.size, C, g, 0, bOf s⟩
theorem conv_text (s : ByteArray) (w : World) : ∃ C W, (convert 9 23 (.string s)).run Tryz.prog w = .ok (.slice (some ⟨w.heap.size, 0, none⟩) s.size C) W ∧ (textS w.heap.size s C).Ok W ∧ Below w.heap.size w W := by
  have hcv := Lib.run_convert_string_bytes (P := Tryz.prog) w 9 23 5 s Tryz.underlying9 Tryz.underlying23 Tryz.underlying5
  refine ⟨_, _, hcv, ⟨bOf_length _, grownCap_ge .., (fun h => by cases h), fun _ => rfl, (fun _ => by show w.heap.size < _; rw [Lib.bytesWorld_size]; omega), fun j hj => ?_⟩, ⟨rfl, rfl, rfl, by rw [Lib.bytesWorld_size]; omega, fun k hk => Lib.bytesWorld_at_old w 5 s k hk⟩⟩
  show (Lib.bytesWorld w 5 s).cell? ⟨w.heap.size, 0 + j, none⟩ = _
  rw [Nat.zero_add, Lib.bytesWorld_cell w 5 s j hj, bOf_get s j hj]
  rfl

/-- What a function answers that tells a text: these bytes. -/
def Tells11 (f : Nat) (g : Nat) (s : ByteArray) (t : List By) : Prop :=
  ∀ w : World, w.cell? ⟨g, 0, none⟩ = some (.string s) → Calls Tryz.prog f #[.pointer (some ⟨g, 0, none⟩)] w fun e w' => ∃ p : SL, e = .returned (.tuple #[.slice p.a p.len p.cap, .int .i64 0]) ∧ p.Ok w' ∧ p.b = t ∧ p.len ≤ 262144 ∧ Below w.heap.size w w'
set_option maxHeartbeats 1000000 in
theorem tell_few (g : Nat) (s : ByteArray) (hs : s.size ≤ 65536) : Tells11 15 g s (Hf.packL (Hf.txt (bOf s))) := by
  intro w hc
  go_enter Tryz.func15, Tryz.ntmps15
  go_wp2_with fail
  refine (put_sl s hs w).mono ?_
  rintro e1 w1 ⟨p, rfl, h1, h2, h3, h4, h5⟩
  clear h3
  go_wp2_with fail
  go_ret2
  exact ⟨p, rfl, h1, h2, h4, h5⟩
set_option maxHeartbeats 1000000 in
theorem tell_plain (g : Nat) (s : ByteArray) (hs : s.size ≤ 65536) : Tells11 17 g s (bOf s) := by
  intro w hc
  obtain ⟨C, W, hcv, hok, hb⟩ := conv_text s w
  have HO := veil hok
  have HB := veil hb
  clear hok hb
  go_enter Tryz.func17, Tryz.ntmps17
  go_wp2
  go_ret2
  exact ⟨_, rfl, HO.out, rfl, by show s.size ≤ 262144; omega, HB.out⟩

theorem zs_vb (l : List Int) (h : ∀ c ∈ l, 0 ≤ c ∧ c ≤ 255) : l.map (Value.int .u8) = vb (Tx.toB l) := by
  have := congrArg (List.map (Value.int .u8)) (Tx.zs_toB l h)
  rw [← this]
  unfold Tx.zs vb
  rw [List.map_map]
  rfl
/-- varint.PutPrefix, in these words. -/
theorem pre_any (first B M : Int) (n : Nat) (w : World) (h : Vi.MayPut first B M n) :
    Calls Tryz.prog 60 #[.int .u8 first, .int .i64 B, .int .u64 (n : Int)] w fun e w' => ∃ v, e = .returned (.tuple #[v, .int .i64 0]) ∧ w'.ownsRow w.heap.size 5 1 v (Vi.putP first M n).length (vb (Tx.toB (Vi.putP first M n))) ∧ Below w.heap.size w w' := by
  refine (Vi.putp_own first B M n w h.mask h.f0 h.f1 h.n0 h.n1 h.fm).mono ?_
  rintro e w' ⟨g, cap, rfl, h1, h2⟩
  refine ⟨_, rfl, ?_, h2⟩
  rw [← zs_vb _ (Vi.putP_bytes h)]
  exact h1.2

theorem own_ptr {w : World} {base : Nat} {v : Value} {n : Nat} {xs : List Value} (h : w.ownsRow base 5 1 v n xs) : ∃ a c, v = .slice a n c := by
  rcases h.2 with ⟨rfl, rfl⟩ | ⟨g, cap, cur, rfl, _⟩
  · exact ⟨_, _, rfl⟩
  · exact ⟨_, _, rfl⟩
theorem Tryz.infoByteX : (Tryz.prog.info? 5).map (fun i => (i.zero, i.size, i.bytes)) = some (some (.int .u8 0), 1, 1) := by kernel_rfl

set_option maxRecDepth 20000 in
set_option maxHeartbeats 1000000 in
theorem behind_any (f : Nat) (eg : ∀ args w, (callFunc f args).run Tryz.prog w = .ok (.enter f args) w) (g : Nat) (s : ByteArray) (t : List By) (hf : Tells11 f g s t) (first B M : Int) (w : World) (hc : w.cell? ⟨g, 0, none⟩ = some (.string s)) (n : Nat) (hn : t.length = n) (hm : Vi.MayPut first B M n) :
    Calls Tryz.prog 13 #[.int .u8 first, .int .i64 B, .func (.func f) #[] #[.pointer (some ⟨g, 0, none⟩)]] w fun e w' => ∃ v, e = .returned (.tuple #[v, .int .i64 0]) ∧ w'.ownsRow w.heap.size 5 1 v ((Vi.putP first M n).length + n) (vb (Tx.toB (Vi.putP first M n) ++ t)) ∧ Below w.heap.size w w' := by
  obtain ⟨i0, hi, hz0, hz1, hz2⟩ := info_parts Tryz.infoByteX
  go_enter Tryz.func13, Tryz.ntmps13
  go_wp2_with fail
  refine (hf w hc).mono ?_
  rintro e1 w1 ⟨p, rfl, h1, rfl, h3, hb1⟩
  have HP := veil h1
  have hpl : p.len = n := h1.hb.symm.trans hn
  subst hpl
  clear hn
  have hwu : IntKind.u64.wrap (p.len : Int) = (p.len : Int) := by rw [IntKind.wrap_u64]; omega
  clear h1
  go_wp2_with fail
  refine (pre_any first B M p.len w1 hm).mono ?_
  rintro e2 w2 ⟨v, rfl, ho, hb2⟩
  have hl := (Vi.putP_len first M p.len).2
  obtain ⟨a, c, rfl⟩ := own_ptr ho
  have b2 := hb1.trans (hb2.mono hb1.size)
  have HB := veil b2
  have HP2 := veil (HP.out.below hb2)
  have HO := veil (own_low ho hb1.size)
  have hsz := b2.size
  clear hb1 hb2 b2 ho hm HP
  go_wp2_with (with_reducible (show wpList _ _ _ (⟨some 33, Op.call _, _, _, _, _⟩ :: _) _ _); refine Hid.out ?_)
  refine show wpList _ _ _ _ _ _ from ?_
  refine append_sl rfl _ _ 23 rfl w.heap.size i0 Tryz.underlying23 hi hz0 hz1 hz2 _ _ _ rfl HO.out p HP2.out rfl (by omega) hsz ?_
  intro v' w3 ho3 hg3
  have HB3 := veil (HB.out.grown hg3 hsz (fun k e => (HO.out.lt k e).1))
  have HO3 := veil ho3
  clear hg3 ho3
  go_wp2_with fail
  go_ret2
  exact ⟨v', rfl, HO3.out, HB3.out⟩

/-- text.Put: what may not be. -/
theorem xput_bits (first B : Int) (s : ByteArray) (w : World) (h : B < 2 ∨ 8 < B) :
    Calls Tryz.prog 5 #[.int .u8 first, .int .i64 B, .string s] w fun e w' => e = .returned (.tuple #[.slice none 0 0, .int .i64 1]) ∧ Below w.heap.size w w' := by
  have b1 : Below w.heap.size w (w.alloc (.cells #[.string s] 9)) := (Below.refl _ w).alloc (Nat.le_refl _) _
  go_enter Tryz.func5, Tryz.ntmps5
  go_wp2_with fail
  refine (txMay_no _ _ h).mono ?_
  rintro e1 w1 ⟨rfl, rfl⟩
  go_wp2
  go_ret2
  exact ⟨rfl, b1⟩
set_option maxHeartbeats 1000000 in
theorem xput_first (first B M : Int) (s : ByteArray) (w : World) (h : Tx.Bt B M) (f0 : 0 ≤ first) (f1 : first ≤ 255) (hf : first % (2 * M + 2) ≠ 0) :
    Calls Tryz.prog 5 #[.int .u8 first, .int .i64 B, .string s] w fun e w' => e = .returned (.tuple #[.slice none 0 0, .int .i64 1]) ∧ Below w.heap.size w w' := by
  have b1 : Below w.heap.size w (w.alloc (.cells #[.string s] 9)) := (Below.refl _ w).alloc (Nat.le_refl _) _
  have hand := h.and8 first f0 f1
  have hbd := h.bd
  have hne : (first % (2 * M + 2) != 0) = true := by simpa using hf
  have H := veil h
  clear h hf
  generalize first % (2 * M + 2) = r at *
  go_enter Tryz.func5, Tryz.ntmps5
  go_wp2_with fail
  refine (txMay_yes _ _ hbd.1 hbd.2.1).mono ?_
  rintro e1 w1 ⟨rfl, rfl⟩
  go_wp2_with fail
  refine (txLow_any B M _ H.out).mono ?_
  rintro e2 w2 ⟨rfl, rfl⟩
  go_wp2
  go_ret2
  exact ⟨rfl, b1⟩
set_option maxHeartbeats 1000000 in
theorem xput_limit (first B M : Int) (s : ByteArray) (w : World) (h : Tx.Bt B M) (f0 : 0 ≤ first) (f1 : first ≤ 255) (hf : first % (2 * M + 2) = 0) (hs : 65536 < s.size) (hm : s.size ≤ 9223372036854775807) :
    Calls Tryz.prog 5 #[.int .u8 first, .int .i64 B, .string s] w fun e w' => e = .returned (.tuple #[.slice none 0 0, .int .i64 3]) ∧ Below w.heap.size w w' := by
  have b1 : Below w.heap.size w (w.alloc (.cells #[.string s] 9)) := (Below.refl _ w).alloc (Nat.le_refl _) _
  have c1 : (w.alloc (.cells #[.string s] 9)).cell? ⟨w.heap.size, 0, none⟩ = some (.string s) := (Row.new w 9 #[.string s]).cell 0
  have hand := h.and8 first f0 f1
  rw [hf] at hand
  have hbd := h.bd
  have hI : (s.size : Int) > 65536 := by omega
  have H := veil h
  clear h hf
  go_enter Tryz.func5, Tryz.ntmps5
  go_wp2_with fail
  refine (txMay_yes _ _ hbd.1 hbd.2.1).mono ?_
  rintro e1 w1 ⟨rfl, rfl⟩
  go_wp2_with fail
  refine (txLow_any B M _ H.out).mono ?_
  rintro e2 w2 ⟨rfl, rfl⟩
  go_wp2
  go_ret2
  exact ⟨rfl, b1⟩
set_option maxRecDepth 20000 in
set_option maxHeartbeats 2000000 in
/-- text.Put: the text behind the highest bits of first. -/
theorem xput_any (first B M : Int) (s : ByteArray) (w : World) (h : Tx.Bt B M) (f0 : 0 ≤ first) (f1 : first ≤ 255) (hf : first % (2 * M + 2) = 0) (hs : s.size ≤ 65536) :
    Calls Tryz.prog 5 #[.int .u8 first, .int .i64 B, .string s] w fun e w' => ∃ v, e = .returned (.tuple #[v, .int .i64 0]) ∧ w'.ownsRow w.heap.size 5 1 v (Tx.putX first M (bOf s)).length (vb (Tx.putX first M (bOf s))) ∧ Below w.heap.size w w' := by
  have b1 : Below w.heap.size w (w.alloc (.cells #[.string s] 9)) := (Below.refl _ w).alloc (Nat.le_refl _) _
  have c1 : (w.alloc (.cells #[.string s] 9)).cell? ⟨w.heap.size, 0, none⟩ = some (.string s) := (Row.new w 9 #[.string s]).cell 0
  have hand := h.and8 first f0 f1
  have hor := h.orM first f0 f1 hf
  rw [hf] at hand
  have hbd := h.bd
  have hI : ¬ (s.size : Int) > 65536 := by omega
  have HF := veil hf
  have H := veil h
  have hlt0 : w.heap.size < (w.alloc (.cells #[.string s] 9)).heap.size := by simp
  clear h hf
  have hpl : (Hf.packL (Hf.txt (bOf s))).length = Hf.packN (Hf.txt (bOf s)) := packL_length _
  have htl := Hf.txt_length_le (bOf s)
  rw [bOf_length] at htl
  have HPL := veil hpl
  have hN : Hf.packN (Hf.txt (bOf s)) ≤ 262144 := by unfold Hf.packN; omega
  have hB1 : IntKind.i64.wrap (B - 1) = B - 1 := by rw [IntKind.wrap_i64]; omega
  clear hpl htl
  go_enter Tryz.func5, Tryz.ntmps5
  go_wp2_with fail
  refine (txMay_yes _ _ hbd.1 hbd.2.1).mono ?_
  rintro e1 w1 ⟨rfl, rfl⟩
  go_wp2_with fail
  refine (txLow_any B M _ H.out).mono ?_
  rintro e2 w2 ⟨rfl, rfl⟩
  have HB1 := veil b1
  have hs1 := b1.size
  clear b1
  generalize w.alloc (.cells #[.string s] 9) = W1 at *
  go_wp2_with fail
  go_region_held3 (fun w' => w'.cell? ⟨w.heap.size, 0, none⟩ = some (.string s)) (first | go_keep | exact (hb5.cell (p := ⟨w.heap.size, 0, none⟩) (by simp; omega)).trans (by assumption)) (first | (go_at_call 12; refine (len_any s (by omega) _).mono ?_; rintro e5 w5 ⟨rfl, hb5⟩))
  have b5 : Below w.heap.size w w5 := HB1.out.trans ((((Below.refl _ W1).drew).trans hb5).mono hs1)
  have c5 : w5.cell? ⟨w.heap.size, 0, none⟩ = some (.string s) := (hb5.cell (p := ⟨w.heap.size, 0, none⟩) (by simp; omega)).trans c1
  have HB5 := veil b5
  have hs5 := b5.size
  clear b5 hb5 HB1 c1 hand
  by_cases hfew : Hf.packN (Hf.txt (bOf s)) < s.size
  · have hd : decide (Hf.packN (Hf.txt (bOf s)) < s.size) = true := decide_eq_true hfew
    have hX : Tx.putX first M (bOf s) = Tx.toB (Vi.putP (first + (M + 1)) M (Hf.packN (Hf.txt (bOf s)))) ++ Hf.packL (Hf.txt (bOf s)) := by
      unfold Tx.putX Tx.laid Tx.told Tx.few Tx.mk
      rw [bOf_length, decide_eq_true hfew, if_pos rfl, if_pos rfl, HPL.out]
    have hXl : (Tx.putX first M (bOf s)).length = (Vi.putP (first + (M + 1)) M (Hf.packN (Hf.txt (bOf s)))).length + Hf.packN (Hf.txt (bOf s)) := by
      rw [hX, List.length_append, Tx.toB_length, HPL.out]
    have HX := veil hX
    have HXl := veil hXl
    have HM := veil (show Vi.MayPut (first + (M + 1)) (B - 1) M (Hf.packN (Hf.txt (bOf s))) from Tx.laid_may H.out f0 f1 HF.out true hN)
    clear hX hXl
    go_wp2_with fail
    refine (txMark_any B M _ H.out).mono ?_
    rintro e6 w6 ⟨rfl, rfl⟩
    go_wp2_with fail
    refine (behind_any 15 (fun _ _ => by rfl) w.heap.size s _ (tell_few _ s hs) (first + (M + 1)) (B - 1) M w6 c5 _ HPL.out HM.out).mono ?_
    rintro e7 w7 ⟨v, rfl, ho, hb7⟩
    have HO := veil (own_low ho hs5)
    have HB7 := veil (HB5.out.trans (hb7.mono hs5))
    clear ho hb7
    go_wp2_with fail
    go_ret2
    refine ⟨v, rfl, ?_, HB7.out⟩
    rw [HXl.out, HX.out]
    exact HO.out
  · have hd : decide (Hf.packN (Hf.txt (bOf s)) < s.size) = false := decide_eq_false hfew
    have hX : Tx.putX first M (bOf s) = Tx.toB (Vi.putP first M s.size) ++ bOf s := by
      unfold Tx.putX Tx.laid Tx.told Tx.few Tx.mk
      rw [bOf_length, decide_eq_false hfew, if_neg (by simp), if_neg (by simp), bOf_length, Int.add_zero]
    have hXl : (Tx.putX first M (bOf s)).length = (Vi.putP first M s.size).length + s.size := by
      rw [hX, List.length_append, Tx.toB_length, bOf_length]
    have HX := veil hX
    have HXl := veil hXl
    have HM := veil (show Vi.MayPut first (B - 1) M s.size from by
      have := Tx.laid_may H.out f0 f1 HF.out false (n := s.size) (by omega)
      rw [show Tx.mk M false = 0 from rfl, Int.add_zero] at this
      exact this)
    clear hX hXl
    go_wp2_with fail
    refine (behind_any 17 (fun _ _ => by rfl) w.heap.size s _ (tell_plain _ s hs) first (B - 1) M w5 c5 _ (bOf_length s) HM.out).mono ?_
    rintro e7 w7 ⟨v, rfl, ho, hb7⟩
    have HO := veil (own_low ho hs5)
    have HB7 := veil (HB5.out.trans (hb7.mono hs5))
    clear ho hb7
    go_wp2_with fail
    go_ret2
    refine ⟨v, rfl, ?_, HB7.out⟩
    rw [HXl.out, HX.out]
    exact HO.out
end Go.Proofs.YtiecpkkklefjdaaGreatDoor
