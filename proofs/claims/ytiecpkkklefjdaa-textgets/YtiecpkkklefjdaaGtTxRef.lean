/-
  What the document's Get of a text answers. Written by mktxget.py.
-/
import Derived.Test.YtiecpkkklefjdaaGtTxGet
import Derived.Test.YtiecpkkklefjdaaGtTxTwo
import Derived.Test.YtiecpkkklefjdaaGtTxVarG
import Derived.Test.YtiecpkkklefjdaaGtHfRefG
namespace Go.Proofs.Ytiecpkkklefjdaa
open Go Go.RowKit

set_option maxHeartbeats 1000000 in
theorem xrget_bits (a : Option Addr) (len cap : Nat) (B : Int) (w : World) (h : B < 2 ∨ 8 < B) :
    Calls Try.prog 11 #[.int .i64 B, .slice a len cap] w fun e w' => e = .returned (.tuple #[.int .u8 0, .string ⟨#[]⟩, .int .i64 0, .int .i64 1]) ∧ w' = w := by
  rcases h with h | h
  · have g1 : decide (B < 2) = true := decide_eq_true h
    go_enter Try.func11, Try.ntmps11
    go_wp2
    exact bodyPost_ret (v := .tuple #[.int .u8 0, .string ⟨#[]⟩, .int .i64 0, .int .i64 1]) (by simp [results, Try.results11, go_sem]) rfl ⟨rfl, rfl⟩
  · have g1 : decide (B < 2) = false := decide_eq_false (by omega)
    have g2 : decide (8 < B) = true := decide_eq_true h
    go_enter Try.func11, Try.ntmps11
    go_wp2
    exact bodyPost_ret (v := .tuple #[.int .u8 0, .string ⟨#[]⟩, .int .i64 0, .int .i64 1]) (by simp [results, Try.results11, go_sem]) rfl ⟨rfl, rfl⟩

set_option maxRecDepth 20000 in
set_option maxHeartbeats 2000000 in
theorem xrget_few (q : SL) (B M : Int) (A n k : Nat) (w : World) (h : Tx.Bt B M) (hq : q.Ok w) (hl : q.len ≤ 1073741824) (hp : Vi.getP M (Tx.zs q.b) = ((A : Int), (n : Int), (k : Int), 0)) (hA : A ≤ 255) (hn : n ≤ 65536) (hk : k + n ≤ q.len) (hm : Tx.mkd M A = true) :
    Calls Try.prog 11 #[.int .i64 B, .slice q.a q.len q.cap] w fun e w' => e = .returned (getXV M q.b) ∧ Below w.heap.size w w' := by
  have hbd := h.bd
  have hX := Tx.getX_fin hp hn (by rw [hq.hb]; exact hk)
  rw [hm] at hX
  obtain ⟨c, hcut, ⟨hcl, hcb⟩, hcok, _⟩ := cut_both q w hq k (k + n) (by omega) hk
  have hcb2 : c.b = (q.b.drop k).take n := by rw [hcb, List.drop_take, show k + n - k = n by omega]
  rw [← hcb2] at hX
  obtain ⟨d, hd⟩ : ∃ d : Nat, M + 1 = (d : Int) := ⟨(M + 1).toNat, by omega⟩
  obtain ⟨qu, hqu⟩ : ∃ c, c = A / d := ⟨_, rfl⟩
  obtain ⟨re, hre⟩ : ∃ c, c = qu % 2 := ⟨_, rfl⟩
  have hflag : ((re : Int) == 1) = true := by
    have e : (A : Int) / (M + 1) % 2 = (re : Int) := by rw [hd, hre, hqu, Int.natCast_emod, Int.natCast_ediv]; rfl
    unfold Tx.mkd at hm
    rw [e] at hm
    rw [← hm]
    rfl
  have hdA : d ≤ A := by
    unfold Tx.mkd at hm
    rcases Nat.lt_or_ge A d with c | c
    · rw [hd, show (A : Int) / (d : Int) = 0 from Int.ediv_eq_zero_of_lt (by omega) (by omega)] at hm
      simp at hm
    · exact c
  have hsb : IntKind.u8.wrap ((A : Int) - (d : Int)) = (A : Int) - (d : Int) := by rw [IntKind.wrap_u8]; omega
  have hcd : IntKind.u8.wrap (d : Int) = (d : Int) := by rw [IntKind.wrap_u8]; omega
  have hmm : Tx.mk M true = (d : Int) := by unfold Tx.mk; rw [if_pos rfl, hd]
  rw [hmm] at hX
  have hpv : Vi.getPV M (Tx.zs q.b) = .tuple #[.int .u8 (A : Int), .int .u64 (n : Int), .int .i64 (k : Int), .int .i64 0] := by unfold Vi.getPV; rw [hp]
  have hgp := Vi.refgetp_any q.a q.len q.cap (Tx.zs q.b) (B - 1) M w h.low (by rw [Tx.zs_length]; exact hq.hb) hl (lies_sl hq) (Tx.zs_byte q.b)
  rw [hpv] at hgp
  have hcv := conv_sl (hcok w hq)
  have HC := veil (hcok w hq)
  have H := veil h
  have HX := veil hX
  have HD := veil hd
  have HQU := veil hqu
  have HRE := veil hre
  have hcl2 : c.len ≤ 65536 := by omega
  have hd1 : d ≤ 128 := by omega
  have hd0 : 0 < d := by omega
  have hqu1 : qu ≤ 255 := by have := Nat.div_le_self A d; omega
  have hB1 : IntKind.i64.wrap (B - 1) = B - 1 := by rw [IntKind.wrap_i64]; omega
  obtain ⟨E0, hE0⟩ : ∃ E : Nat, k + n = E := ⟨_, rfl⟩
  have hE1 : (k : Int) + (n : Int) = (E0 : Int) := by omega
  have hsub : IntKind.i64.wrap ((q.len : Int) - (k : Int)) = (q.len : Int) - (k : Int) := by rw [IntKind.wrap_i64]; omega
  have hcvi : IntKind.i64.wrap (n : Int) = (n : Int) := by rw [IntKind.wrap_i64]; omega
  have hcvA : IntKind.i64.wrap (A : Int) = (A : Int) := by rw [IntKind.wrap_i64]; omega
  have hadd : IntKind.i64.wrap (E0 : Int) = (E0 : Int) := by rw [IntKind.wrap_i64]; omega
  have g1 : decide (B < 2) = false := decide_eq_false (by omega)
  have g2 : decide (8 < B) = false := decide_eq_false (by omega)
  have d1 : decide ((65536 : Int) < (n : Int)) = false := decide_eq_false (by omega)
  have d2 : decide ((q.len : Int) - (k : Int) < (n : Int)) = false := decide_eq_false (by omega)
  rw [hE0] at hcut HX
  clear h hq hX hcok hcl hcb hcb2 hp hpv hm hE0 hd hqu hre
  go_enter Try.func11, Try.ntmps11
  go_wp2_with fail
  refine hgp.mono ?_
  rintro e2 w2 ⟨rfl, hw2⟩
  obtain rfl := hw2.symm
  clear hgp
  go_wp2_with fail
  refine (two_low B M d H.out HD.out w).mono ?_
  rintro e3 w3 ⟨rfl, hw3⟩
  obtain rfl := hw3.symm
  go_wp2_with (first
    | (with_reducible (show wpList _ _ _ (⟨_, Op.binOp BinOp.quo _ _ _ _, _, _, _, _⟩ :: _) _ _); refine val_run rfl (.int .i64 (qu : Int)) (run_quoN _ _ _ _ A d qu HQU.out hd0 rfl (by kernel_rfl) (by kernel_rfl) (by omega) _) ?_)
    | (with_reducible (show wpList _ _ _ (⟨_, Op.binOp BinOp.rem _ _ _ _, _, _, _, _⟩ :: _) _ _); refine val_run rfl (.int .i64 (re : Int)) (run_remN _ _ _ _ qu 2 re HRE.out (by decide) rfl (by kernel_rfl) (by kernel_rfl) (by omega) _) ?_))
  refine (two_low B M d H.out HD.out w).mono ?_
  rintro e4 w4 ⟨rfl, hw4⟩
  obtain rfl := hw4.symm
  go_wp2_with fail
  refine (getR_any c w HC.out (by omega)).mono ?_
  rintro e5 w5 ⟨s5, E5, rfl, hc5, hb5⟩
  have HB5 := veil hb5
  clear hb5
  have hc6 : Tx.read true c.b = none ∧ E5 = 5 ∧ s5 = ⟨#[]⟩ ∨ ∃ t, Tx.read true c.b = some t ∧ E5 = 0 ∧ s5 = strOf t := hc5
  clear hc5
  rcases hc6 with ⟨hr, rfl, rfl⟩ | ⟨t, hr, rfl, rfl⟩
  · have hv : getXV M q.b = .tuple #[.int .u8 0, .string ⟨#[]⟩, .int .i64 0, .int .i64 5] := getXV_no (by rw [HX.out, hr]; rfl)
    have HV := veil hv
    clear hv hr
    go_wp2_with fail
    exact bodyPost_ret (v := .tuple #[.int .u8 0, .string ⟨#[]⟩, .int .i64 0, .int .i64 5]) (by simp [results, Try.results11, go_sem]) rfl ⟨by rw [HV.out], HB5.out⟩
  · have hsz : (strOf t).size = t.length := strOf_size t
    by_cases hbig : 65536 < t.length
    · have hv : getXV M q.b = .tuple #[.int .u8 0, .string ⟨#[]⟩, .int .i64 0, .int .i64 3] := getXV_no (by rw [HX.out, hr]; unfold Tx.fin; simp only; rw [if_pos hbig])
      have HV := veil hv
      have hI : ((strOf t).size : Int) > 65536 := by rw [hsz]; omega
      clear hv hr hsz hbig
      go_wp2_with fail
      exact bodyPost_ret (v := .tuple #[.int .u8 0, .string ⟨#[]⟩, .int .i64 0, .int .i64 3]) (by simp [results, Try.results11, go_sem]) rfl ⟨by rw [HV.out], HB5.out⟩
    · have hv : getXV M q.b = .tuple #[.int .u8 ((A : Int) - (d : Int)), .string (strOf t), .int .i64 (E0 : Int), .int .i64 0] := getXV_of (by rw [HX.out, hr]; unfold Tx.fin; simp only; rw [if_neg hbig])
      have HV := veil hv
      have hI : ¬ ((strOf t).size : Int) > 65536 := by rw [hsz]; omega
      clear hv hr hsz hbig
      go_wp2_with fail
      exact bodyPost_ret (v := .tuple #[.int .u8 ((A : Int) - (d : Int)), .string (strOf t), .int .i64 (E0 : Int), .int .i64 0]) (by simp [results, Try.results11, go_sem]) rfl ⟨by rw [HV.out], HB5.out⟩

set_option maxRecDepth 20000 in
set_option maxHeartbeats 2000000 in
theorem xrget_plain (q : SL) (B M : Int) (A n k : Nat) (w : World) (h : Tx.Bt B M) (hq : q.Ok w) (hl : q.len ≤ 1073741824) (hp : Vi.getP M (Tx.zs q.b) = ((A : Int), (n : Int), (k : Int), 0)) (hA : A ≤ 255) (hn : n ≤ 65536) (hk : k + n ≤ q.len) (hm : Tx.mkd M A = false) :
    Calls Try.prog 11 #[.int .i64 B, .slice q.a q.len q.cap] w fun e w' => e = .returned (getXV M q.b) ∧ Below w.heap.size w w' := by
  have hbd := h.bd
  have hX := Tx.getX_fin hp hn (by rw [hq.hb]; exact hk)
  rw [hm] at hX
  obtain ⟨c, hcut, ⟨hcl, hcb⟩, hcok, _⟩ := cut_both q w hq k (k + n) (by omega) hk
  have hcb2 : c.b = (q.b.drop k).take n := by rw [hcb, List.drop_take, show k + n - k = n by omega]
  rw [← hcb2] at hX
  obtain ⟨d, hd⟩ : ∃ d : Nat, M + 1 = (d : Int) := ⟨(M + 1).toNat, by omega⟩
  obtain ⟨qu, hqu⟩ : ∃ c, c = A / d := ⟨_, rfl⟩
  obtain ⟨re, hre⟩ : ∃ c, c = qu % 2 := ⟨_, rfl⟩
  have hflag : ((re : Int) == 1) = false := by
    have e : (A : Int) / (M + 1) % 2 = (re : Int) := by rw [hd, hre, hqu, Int.natCast_emod, Int.natCast_ediv]; rfl
    unfold Tx.mkd at hm
    rw [e] at hm
    rw [← hm]
    rfl
  have hmm : Tx.mk M false = 0 := rfl
  rw [hmm, Int.sub_zero] at hX
  have hpv : Vi.getPV M (Tx.zs q.b) = .tuple #[.int .u8 (A : Int), .int .u64 (n : Int), .int .i64 (k : Int), .int .i64 0] := by unfold Vi.getPV; rw [hp]
  have hgp := Vi.refgetp_any q.a q.len q.cap (Tx.zs q.b) (B - 1) M w h.low (by rw [Tx.zs_length]; exact hq.hb) hl (lies_sl hq) (Tx.zs_byte q.b)
  rw [hpv] at hgp
  have hcv := conv_sl (hcok w hq)
  have HC := veil (hcok w hq)
  have H := veil h
  have HX := veil hX
  have HD := veil hd
  have HQU := veil hqu
  have HRE := veil hre
  have hcl2 : c.len ≤ 65536 := by omega
  have hd1 : d ≤ 128 := by omega
  have hd0 : 0 < d := by omega
  have hqu1 : qu ≤ 255 := by have := Nat.div_le_self A d; omega
  have hB1 : IntKind.i64.wrap (B - 1) = B - 1 := by rw [IntKind.wrap_i64]; omega
  obtain ⟨E0, hE0⟩ : ∃ E : Nat, k + n = E := ⟨_, rfl⟩
  have hE1 : (k : Int) + (n : Int) = (E0 : Int) := by omega
  have hsub : IntKind.i64.wrap ((q.len : Int) - (k : Int)) = (q.len : Int) - (k : Int) := by rw [IntKind.wrap_i64]; omega
  have hcvi : IntKind.i64.wrap (n : Int) = (n : Int) := by rw [IntKind.wrap_i64]; omega
  have hcvA : IntKind.i64.wrap (A : Int) = (A : Int) := by rw [IntKind.wrap_i64]; omega
  have hadd : IntKind.i64.wrap (E0 : Int) = (E0 : Int) := by rw [IntKind.wrap_i64]; omega
  have g1 : decide (B < 2) = false := decide_eq_false (by omega)
  have g2 : decide (8 < B) = false := decide_eq_false (by omega)
  have d1 : decide ((65536 : Int) < (n : Int)) = false := decide_eq_false (by omega)
  have d2 : decide ((q.len : Int) - (k : Int) < (n : Int)) = false := decide_eq_false (by omega)
  rw [hE0] at hcut HX
  clear h hq hX hcok hcl hcb hcb2 hp hpv hm hE0 hd hqu hre
  have hsz : (strOf c.b).size = c.b.length := strOf_size c.b
  by_cases hbig : 65536 < c.b.length
  · have hv : getXV M q.b = .tuple #[.int .u8 0, .string ⟨#[]⟩, .int .i64 0, .int .i64 3] := getXV_no (by rw [HX.out]; unfold Tx.read Tx.fin; simp only [Bool.false_eq_true, if_false]; rw [if_pos hbig])
    have HV := veil hv
    have hI : ((strOf c.b).size : Int) > 65536 := by rw [hsz]; omega
    clear hv hsz hbig
    go_enter Try.func11, Try.ntmps11
    go_wp2_with fail
    refine hgp.mono ?_
    rintro e2 w2 ⟨rfl, hw2⟩
    obtain rfl := hw2.symm
    clear hgp
    go_wp2_with fail
    refine (two_low B M d H.out HD.out w).mono ?_
    rintro e3 w3 ⟨rfl, hw3⟩
    obtain rfl := hw3.symm
    go_wp2_with (first
      | (with_reducible (show wpList _ _ _ (⟨_, Op.binOp BinOp.quo _ _ _ _, _, _, _, _⟩ :: _) _ _); refine val_run rfl (.int .i64 (qu : Int)) (run_quoN _ _ _ _ A d qu HQU.out hd0 rfl (by kernel_rfl) (by kernel_rfl) (by omega) _) ?_)
      | (with_reducible (show wpList _ _ _ (⟨_, Op.binOp BinOp.rem _ _ _ _, _, _, _, _⟩ :: _) _ _); refine val_run rfl (.int .i64 (re : Int)) (run_remN _ _ _ _ qu 2 re HRE.out (by decide) rfl (by kernel_rfl) (by kernel_rfl) (by omega) _) ?_))
    exact bodyPost_ret (v := .tuple #[.int .u8 0, .string ⟨#[]⟩, .int .i64 0, .int .i64 3]) (by simp [results, Try.results11, go_sem]) rfl ⟨by rw [HV.out], Below.refl _ _⟩
  · have hv : getXV M q.b = .tuple #[.int .u8 (A : Int), .string (strOf c.b), .int .i64 (E0 : Int), .int .i64 0] := getXV_of (by rw [HX.out]; unfold Tx.read Tx.fin; simp only [Bool.false_eq_true, if_false]; rw [if_neg hbig])
    have HV := veil hv
    have hI : ¬ ((strOf c.b).size : Int) > 65536 := by rw [hsz]; omega
    clear hv hsz hbig
    go_enter Try.func11, Try.ntmps11
    go_wp2_with fail
    refine hgp.mono ?_
    rintro e2 w2 ⟨rfl, hw2⟩
    obtain rfl := hw2.symm
    clear hgp
    go_wp2_with fail
    refine (two_low B M d H.out HD.out w).mono ?_
    rintro e3 w3 ⟨rfl, hw3⟩
    obtain rfl := hw3.symm
    go_wp2_with (first
      | (with_reducible (show wpList _ _ _ (⟨_, Op.binOp BinOp.quo _ _ _ _, _, _, _, _⟩ :: _) _ _); refine val_run rfl (.int .i64 (qu : Int)) (run_quoN _ _ _ _ A d qu HQU.out hd0 rfl (by kernel_rfl) (by kernel_rfl) (by omega) _) ?_)
      | (with_reducible (show wpList _ _ _ (⟨_, Op.binOp BinOp.rem _ _ _ _, _, _, _, _⟩ :: _) _ _); refine val_run rfl (.int .i64 (re : Int)) (run_remN _ _ _ _ qu 2 re HRE.out (by decide) rfl (by kernel_rfl) (by kernel_rfl) (by omega) _) ?_))
    exact bodyPost_ret (v := .tuple #[.int .u8 (A : Int), .string (strOf c.b), .int .i64 (E0 : Int), .int .i64 0]) (by simp [results, Try.results11, go_sem]) rfl ⟨by rw [HV.out], Below.refl _ _⟩

set_option maxRecDepth 20000 in
set_option maxHeartbeats 2000000 in
theorem xrget_err (q : SL) (B M e : Int) (w : World) (h : Tx.Bt B M) (hq : q.Ok w) (hl : q.len ≤ 1073741824) (hp : Vi.getP M (Tx.zs q.b) = (0, 0, 0, e)) (he : e ≠ 0) :
    Calls Try.prog 11 #[.int .i64 B, .slice q.a q.len q.cap] w fun e w' => e = .returned (getXV M q.b) ∧ Below w.heap.size w w' := by
  have hbd := h.bd
  have g1 : decide (B < 2) = false := decide_eq_false (by omega)
  have g2 : decide (8 < B) = false := decide_eq_false (by omega)
  have hv := getXV_no (Tx.getX_err hp he)
  have hpv : Vi.getPV M (Tx.zs q.b) = .tuple #[.int .u8 0, .int .u64 0, .int .i64 0, .int .i64 e] := by unfold Vi.getPV; rw [hp]
  have hgp := Vi.refgetp_any q.a q.len q.cap (Tx.zs q.b) (B - 1) M w h.low (by rw [Tx.zs_length]; exact hq.hb) hl (lies_sl hq) (Tx.zs_byte q.b)
  rw [hpv] at hgp
  have hne : (e != 0) = true := by simpa using he
  have HV := veil hv
  have hB1 : IntKind.i64.wrap (B - 1) = B - 1 := by rw [IntKind.wrap_i64]; omega
  clear h hq hp hpv hv he
  go_enter Try.func11, Try.ntmps11
  go_wp2_with fail
  refine hgp.mono ?_
  rintro e2 w2 ⟨rfl, hw2⟩
  obtain rfl := hw2.symm
  clear hgp
  go_wp2_with fail
  exact bodyPost_ret (v := .tuple #[.int .u8 0, .string ⟨#[]⟩, .int .i64 0, .int .i64 e]) (by simp [results, Try.results11, go_sem]) rfl ⟨by rw [HV.out], Below.refl _ _⟩
set_option maxRecDepth 20000 in
set_option maxHeartbeats 2000000 in
theorem xrget_lim (q : SL) (B M : Int) (A n k : Nat) (w : World) (h : Tx.Bt B M) (hq : q.Ok w) (hl : q.len ≤ 1073741824) (hp : Vi.getP M (Tx.zs q.b) = ((A : Int), (n : Int), (k : Int), 0)) (hx : 65536 < n) :
    Calls Try.prog 11 #[.int .i64 B, .slice q.a q.len q.cap] w fun e w' => e = .returned (getXV M q.b) ∧ Below w.heap.size w w' := by
  have hbd := h.bd
  have g1 : decide (B < 2) = false := decide_eq_false (by omega)
  have g2 : decide (8 < B) = false := decide_eq_false (by omega)
  have hv := getXV_no (Tx.getX_big hp (by omega))
  have hpv : Vi.getPV M (Tx.zs q.b) = .tuple #[.int .u8 (A : Int), .int .u64 (n : Int), .int .i64 (k : Int), .int .i64 0] := by unfold Vi.getPV; rw [hp]
  have hgp := Vi.refgetp_any q.a q.len q.cap (Tx.zs q.b) (B - 1) M w h.low (by rw [Tx.zs_length]; exact hq.hb) hl (lies_sl hq) (Tx.zs_byte q.b)
  rw [hpv] at hgp
  have d1 : decide ((65536 : Int) < (n : Int)) = true := decide_eq_true (by omega)
  have HV := veil hv
  have hB1 : IntKind.i64.wrap (B - 1) = B - 1 := by rw [IntKind.wrap_i64]; omega
  clear h hq hp hpv hv
  go_enter Try.func11, Try.ntmps11
  go_wp2_with fail
  refine hgp.mono ?_
  rintro e2 w2 ⟨rfl, hw2⟩
  obtain rfl := hw2.symm
  clear hgp
  go_wp2_with fail
  exact bodyPost_ret (v := .tuple #[.int .u8 0, .string ⟨#[]⟩, .int .i64 0, .int .i64 3]) (by simp [results, Try.results11, go_sem]) rfl ⟨by rw [HV.out], Below.refl _ _⟩
set_option maxRecDepth 20000 in
set_option maxHeartbeats 2000000 in
theorem xrget_short (q : SL) (B M : Int) (A n k : Nat) (w : World) (h : Tx.Bt B M) (hq : q.Ok w) (hl : q.len ≤ 1073741824) (hp : Vi.getP M (Tx.zs q.b) = ((A : Int), (n : Int), (k : Int), 0)) (hn : n ≤ 65536) (hkl : k ≤ q.len) (hx : q.len < k + n) :
    Calls Try.prog 11 #[.int .i64 B, .slice q.a q.len q.cap] w fun e w' => e = .returned (getXV M q.b) ∧ Below w.heap.size w w' := by
  have hbd := h.bd
  have g1 : decide (B < 2) = false := decide_eq_false (by omega)
  have g2 : decide (8 < B) = false := decide_eq_false (by omega)
  have hv := getXV_no (Tx.getX_short hp (by omega) (by rw [hq.hb]; omega))
  have hpv : Vi.getPV M (Tx.zs q.b) = .tuple #[.int .u8 (A : Int), .int .u64 (n : Int), .int .i64 (k : Int), .int .i64 0] := by unfold Vi.getPV; rw [hp]
  have hgp := Vi.refgetp_any q.a q.len q.cap (Tx.zs q.b) (B - 1) M w h.low (by rw [Tx.zs_length]; exact hq.hb) hl (lies_sl hq) (Tx.zs_byte q.b)
  rw [hpv] at hgp
  have hsub : IntKind.i64.wrap ((q.len : Int) - (k : Int)) = (q.len : Int) - (k : Int) := by rw [IntKind.wrap_i64]; omega
  have hcvi : IntKind.i64.wrap (n : Int) = (n : Int) := by rw [IntKind.wrap_i64]; omega
  have d1 : decide ((65536 : Int) < (n : Int)) = false := decide_eq_false (by omega)
  have d2 : decide ((q.len : Int) - (k : Int) < (n : Int)) = true := decide_eq_true (by omega)
  have HV := veil hv
  have hB1 : IntKind.i64.wrap (B - 1) = B - 1 := by rw [IntKind.wrap_i64]; omega
  clear h hq hp hpv hv
  go_enter Try.func11, Try.ntmps11
  go_wp2_with fail
  refine hgp.mono ?_
  rintro e2 w2 ⟨rfl, hw2⟩
  obtain rfl := hw2.symm
  clear hgp
  go_wp2_with fail
  exact bodyPost_ret (v := .tuple #[.int .u8 0, .string ⟨#[]⟩, .int .i64 0, .int .i64 4]) (by simp [results, Try.results11, go_sem]) rfl ⟨by rw [HV.out], Below.refl _ _⟩

/-- The document's Get, at any bytes, bits from 2 to 8. -/
theorem xrget_any (q : SL) (B M : Int) (w : World) (h : Tx.Bt B M) (hq : q.Ok w) (hl : q.len ≤ 1073741824) :
    Calls Try.prog 11 #[.int .i64 B, .slice q.a q.len q.cap] w fun e w' => e = .returned (getXV M q.b) ∧ Below w.heap.size w w' := by
  rcases Tx.getP_nat h q.b with ⟨e, h1, h2, h3⟩ | ⟨A, n, k, h1, h2, h3, h4, h5, h6⟩
  · exact xrget_err q B M e w h hq hl h1 (by omega)
  have hA := h2.f1
  rw [hq.hb] at h5
  by_cases hn : 65536 < n
  · exact xrget_lim q B M A n k w h hq hl h1 hn
  by_cases hs : q.len < k + n
  · exact xrget_short q B M A n k w h hq hl h1 (by omega) h5 hs
  cases hm : Tx.mkd M A with
  | true => exact xrget_few q B M A n k w h hq hl h1 (by omega) (by omega) (by omega) hm
  | false => exact xrget_plain q B M A n k w h hq hl h1 (by omega) (by omega) (by omega) hm
end Go.Proofs.Ytiecpkkklefjdaa
