/-
  What text.Get answers. Written by mktxget.py.
-/
import Derived.Test.YtiecpkkklefjdaaGtTxPut
import Derived.Test.YtiecpkkklefjdaaGtTxCut
import Derived.Test.YtiecpkkklefjdaaGtTxConv
namespace Go.Proofs.Ytiecpkkklefjdaa
open Go Go.RowKit

/-- What a function answers that reads a text. -/
def Reads11 (f : Nat) (b : Bool) : Prop :=
  ∀ (q : SL) (w : World), q.Ok w → q.len ≤ 65536 → Calls Try.prog f #[.slice q.a q.len q.cap] w fun e w' => ∃ s E, e = .returned (.tuple #[.string s, .int .i64 E]) ∧ (Tx.read b q.b = none ∧ E = 5 ∧ s = ⟨#[]⟩ ∨ ∃ t, Tx.read b q.b = some t ∧ E = 0 ∧ s = strOf t) ∧ Below w.heap.size w w'
theorem reads_few : Reads11 37 true := by
  intro q w hq hl
  exact get_any q w hq (by omega)
set_option maxHeartbeats 1000000 in
theorem reads_plain : Reads11 38 false := by
  intro q w hq hl
  have hcv := conv_sl hq
  clear hq
  go_enter Try.func38, Try.ntmps38
  go_wp2
  go_ret2
  exact ⟨_, _, rfl, .inr ⟨q.b, rfl, rfl, rfl⟩, Below.refl _ _⟩
set_option maxHeartbeats 400000 in
theorem reading_yes (w : World) : Calls Try.prog 19 #[.bool true] w fun e w' => e = .returned (.func (.func 37) #[] #[]) ∧ w' = w := by
  go_enter Try.func19, Try.ntmps19
  go_wp2
  go_ret
  exact ⟨rfl, rfl⟩
set_option maxHeartbeats 400000 in
theorem reading_no (w : World) : Calls Try.prog 19 #[.bool false] w fun e w' => e = .returned (.func (.func 38) #[] #[]) ∧ w' = w := by
  go_enter Try.func19, Try.ntmps19
  go_wp2
  go_ret
  exact ⟨rfl, rfl⟩

/-- What Get answers, as a value. -/
def getXV (M : Int) (b : List By) : Value := .tuple #[.int .u8 (Tx.getX M b).1, .string (strOf (Tx.getX M b).2.1), .int .i64 (Tx.getX M b).2.2.1, .int .i64 (Tx.getX M b).2.2.2]
theorem getXV_of {M : Int} {b : List By} {a n e : Int} {s : List By} (h : Tx.getX M b = (a, s, n, e)) : getXV M b = .tuple #[.int .u8 a, .string (strOf s), .int .i64 n, .int .i64 e] := by unfold getXV; rw [h]
theorem getXV_no {M : Int} {b : List By} {e : Int} (h : Tx.getX M b = (0, [], 0, e)) : getXV M b = .tuple #[.int .u8 0, .string ⟨#[]⟩, .int .i64 0, .int .i64 e] := getXV_of h

set_option maxHeartbeats 1000000 in
theorem xget_bits (a : Option Addr) (len cap : Nat) (B : Int) (w : World) (h : B < 2 ∨ 8 < B) :
    Calls Try.prog 10 #[.int .i64 B, .slice a len cap] w fun e w' => e = .returned (.tuple #[.int .u8 0, .string ⟨#[]⟩, .int .i64 0, .int .i64 1]) ∧ w' = w := by
  go_enter Try.func10, Try.ntmps10
  go_wp2_with fail
  refine (txMay_no _ _ h).mono ?_
  rintro e1 w1 ⟨rfl, rfl⟩
  go_wp2
  exact bodyPost_ret (v := .tuple #[.int .u8 0, .string ⟨#[]⟩, .int .i64 0, .int .i64 1]) (by simp [results, Try.results10, go_sem]) rfl ⟨rfl, rfl⟩

set_option maxRecDepth 20000 in
set_option maxHeartbeats 2000000 in
theorem xget_few (q : SL) (B M : Int) (A n k : Nat) (w : World) (h : Tx.Bt B M) (hq : q.Ok w) (hl : q.len ≤ 1073741824) (hp : Vi.getP M (Tx.zs q.b) = ((A : Int), (n : Int), (k : Int), 0)) (hA : A ≤ 255) (hn : n ≤ 65536) (hk : k + n ≤ q.len) (hm : Tx.mkd M A = true) :
    Calls Try.prog 10 #[.int .i64 B, .slice q.a q.len q.cap] w fun e w' => e = .returned (getXV M q.b) ∧ Below w.heap.size w w' := by
  have hbd := h.bd
  have hX := Tx.getX_fin hp hn (by rw [hq.hb]; exact hk)
  rw [hm] at hX
  obtain ⟨c, hcut, ⟨hcl, hcb⟩, hcok, _⟩ := cut_both q w hq k (k + n) (by omega) hk
  have hcb2 : c.b = (q.b.drop k).take n := by rw [hcb, List.drop_take, show k + n - k = n by omega]
  rw [← hcb2] at hX
  have hand := h.andM (A : Int) (by omega) (by omega)
  have hnot := h.andNotM (A : Int) (by omega) (by omega)
  rw [hm] at hand hnot
  have hmk := Tx.mk_ne M (by omega) true
  have hpv : Vi.getPV M (Tx.zs q.b) = .tuple #[.int .u8 (A : Int), .int .u64 (n : Int), .int .i64 (k : Int), .int .i64 0] := by unfold Vi.getPV; rw [hp]
  have hgp := Vi.getp_any q.a q.len q.cap (Tx.zs q.b) (B - 1) M w h.low (by rw [Tx.zs_length]; exact hq.hb) hl hq.hcap (lies_sl hq) (Tx.zs_byte q.b)
  rw [hpv] at hgp
  have H := veil h
  have HQ := veil hq
  have HX := veil hX
  have HCO := veil hcok
  have HCL := veil hcl
  have hB1 : IntKind.i64.wrap (B - 1) = B - 1 := by rw [IntKind.wrap_i64]; omega
  obtain ⟨E0, hE0⟩ : ∃ E : Nat, k + n = E := ⟨_, rfl⟩
  have hE1 : (k : Int) + (n : Int) = (E0 : Int) := by omega
  have hsub : IntKind.i64.wrap ((q.len : Int) - (k : Int)) = (q.len : Int) - (k : Int) := by rw [IntKind.wrap_i64]; omega
  have hcvu : IntKind.u64.wrap ((q.len : Int) - (k : Int)) = (q.len : Int) - (k : Int) := by rw [IntKind.wrap_u64]; omega
  have hcvi : IntKind.i64.wrap (n : Int) = (n : Int) := by rw [IntKind.wrap_i64]; omega
  have hadd : IntKind.i64.wrap (E0 : Int) = (E0 : Int) := by rw [IntKind.wrap_i64]; omega
  have d1 : decide ((65536 : Int) < (n : Int)) = false := decide_eq_false (by omega)
  have d2 : decide ((q.len : Int) - (k : Int) < (n : Int)) = false := decide_eq_false (by omega)
  rw [hE0] at hcut HX
  have HE0 := veil hE0
  clear h hq hX hcok hcl hcb hcb2 hp hpv hm hE0
  generalize Tx.mk M true = mm at *
  go_enter Try.func10, Try.ntmps10
  go_wp2_with fail
  refine (txMay_yes _ _ hbd.1 hbd.2.1).mono ?_
  rintro e1 w1 ⟨rfl, hw1⟩
  obtain rfl := hw1.symm
  go_wp2_with fail
  refine hgp.mono ?_
  rintro e2 w2 ⟨rfl, hb2⟩
  have HB2 := veil hb2
  have hs2 := hb2.size
  clear hb2 hgp
  go_wp2_with fail
  go_region_held3 (fun _ => True) (trivial) (first
    | (go_at_call 20; refine (txMark_any B M _ H.out).mono ?_; rintro e3 w3 ⟨rfl, hw3⟩; obtain rfl := hw3.symm)
    | (go_at_call 19; refine (reading_yes _).mono ?_; rintro e4 w4 ⟨rfl, hw4⟩; obtain rfl := hw4.symm)
    | (go_at_call 37; refine (reads_few c _ (HCO.out _ (HQ.out.below (HB2.out.drew))) (by have := HCL.out; omega)).mono ?_; rintro e5 w5 ⟨s5, E5, rfl, hc5, hb5⟩))
  have b5 : Below w.heap.size w w5 := HB2.out.drew.trans (hb5.mono hs2)
  have HB5 := veil b5
  clear b5 hb5 HB2 hand hmk
  rcases hc5 with ⟨hr, rfl, rfl⟩ | ⟨t, hr, rfl, rfl⟩
  · have hv : getXV M q.b = .tuple #[.int .u8 0, .string ⟨#[]⟩, .int .i64 0, .int .i64 5] := getXV_no (by rw [HX.out, hr]; rfl)
    have HV := veil hv
    clear hv hr
    go_wp2_with fail
    exact bodyPost_ret (v := .tuple #[.int .u8 0, .string ⟨#[]⟩, .int .i64 0, .int .i64 5]) (by simp [results, Try.results10, go_sem]) rfl ⟨by rw [HV.out], HB5.out⟩
  · have hsz : (strOf t).size = t.length := strOf_size t
    have HSZ := veil hsz
    by_cases hbig : 65536 < t.length
    · have hv : getXV M q.b = .tuple #[.int .u8 0, .string ⟨#[]⟩, .int .i64 0, .int .i64 3] := getXV_no (by rw [HX.out, hr]; unfold Tx.fin; simp only; rw [if_pos hbig])
      have HV := veil hv
      have hI : ((strOf t).size : Int) > 65536 := by rw [hsz]; omega
      clear hv hr hsz hbig
      go_wp2_with fail
      exact bodyPost_ret (v := .tuple #[.int .u8 0, .string ⟨#[]⟩, .int .i64 0, .int .i64 3]) (by simp [results, Try.results10, go_sem]) rfl ⟨by rw [HV.out], HB5.out⟩
    · have hv : getXV M q.b = .tuple #[.int .u8 ((A : Int) - mm), .string (strOf t), .int .i64 (E0 : Int), .int .i64 0] := getXV_of (by rw [HX.out, hr]; unfold Tx.fin; simp only; rw [if_neg hbig])
      have HV := veil hv
      have hI : ¬ ((strOf t).size : Int) > 65536 := by rw [hsz]; omega
      clear hv hr hsz hbig
      go_wp2_with fail
      refine (txMark_any B M _ H.out).mono ?_
      rintro e6 w6 ⟨rfl, hw6⟩
      obtain rfl := hw6.symm
      go_wp2_with fail
      exact bodyPost_ret (v := .tuple #[.int .u8 ((A : Int) - mm), .string (strOf t), .int .i64 (E0 : Int), .int .i64 0]) (by simp [results, Try.results10, go_sem]) rfl ⟨by rw [HV.out], HB5.out⟩

set_option maxRecDepth 20000 in
set_option maxHeartbeats 2000000 in
theorem xget_plain (q : SL) (B M : Int) (A n k : Nat) (w : World) (h : Tx.Bt B M) (hq : q.Ok w) (hl : q.len ≤ 1073741824) (hp : Vi.getP M (Tx.zs q.b) = ((A : Int), (n : Int), (k : Int), 0)) (hA : A ≤ 255) (hn : n ≤ 65536) (hk : k + n ≤ q.len) (hm : Tx.mkd M A = false) :
    Calls Try.prog 10 #[.int .i64 B, .slice q.a q.len q.cap] w fun e w' => e = .returned (getXV M q.b) ∧ Below w.heap.size w w' := by
  have hbd := h.bd
  have hX := Tx.getX_fin hp hn (by rw [hq.hb]; exact hk)
  rw [hm] at hX
  obtain ⟨c, hcut, ⟨hcl, hcb⟩, hcok, _⟩ := cut_both q w hq k (k + n) (by omega) hk
  have hcb2 : c.b = (q.b.drop k).take n := by rw [hcb, List.drop_take, show k + n - k = n by omega]
  rw [← hcb2] at hX
  have hand := h.andM (A : Int) (by omega) (by omega)
  have hnot := h.andNotM (A : Int) (by omega) (by omega)
  rw [hm] at hand hnot
  have hmk := Tx.mk_ne M (by omega) false
  have hpv : Vi.getPV M (Tx.zs q.b) = .tuple #[.int .u8 (A : Int), .int .u64 (n : Int), .int .i64 (k : Int), .int .i64 0] := by unfold Vi.getPV; rw [hp]
  have hgp := Vi.getp_any q.a q.len q.cap (Tx.zs q.b) (B - 1) M w h.low (by rw [Tx.zs_length]; exact hq.hb) hl hq.hcap (lies_sl hq) (Tx.zs_byte q.b)
  rw [hpv] at hgp
  have H := veil h
  have HQ := veil hq
  have HX := veil hX
  have HCO := veil hcok
  have HCL := veil hcl
  have hB1 : IntKind.i64.wrap (B - 1) = B - 1 := by rw [IntKind.wrap_i64]; omega
  obtain ⟨E0, hE0⟩ : ∃ E : Nat, k + n = E := ⟨_, rfl⟩
  have hE1 : (k : Int) + (n : Int) = (E0 : Int) := by omega
  have hsub : IntKind.i64.wrap ((q.len : Int) - (k : Int)) = (q.len : Int) - (k : Int) := by rw [IntKind.wrap_i64]; omega
  have hcvu : IntKind.u64.wrap ((q.len : Int) - (k : Int)) = (q.len : Int) - (k : Int) := by rw [IntKind.wrap_u64]; omega
  have hcvi : IntKind.i64.wrap (n : Int) = (n : Int) := by rw [IntKind.wrap_i64]; omega
  have hadd : IntKind.i64.wrap (E0 : Int) = (E0 : Int) := by rw [IntKind.wrap_i64]; omega
  have d1 : decide ((65536 : Int) < (n : Int)) = false := decide_eq_false (by omega)
  have d2 : decide ((q.len : Int) - (k : Int) < (n : Int)) = false := decide_eq_false (by omega)
  rw [hE0] at hcut HX
  have HE0 := veil hE0
  clear h hq hX hcok hcl hcb hcb2 hp hpv hm hE0
  generalize Tx.mk M false = mm at *
  go_enter Try.func10, Try.ntmps10
  go_wp2_with fail
  refine (txMay_yes _ _ hbd.1 hbd.2.1).mono ?_
  rintro e1 w1 ⟨rfl, hw1⟩
  obtain rfl := hw1.symm
  go_wp2_with fail
  refine hgp.mono ?_
  rintro e2 w2 ⟨rfl, hb2⟩
  have HB2 := veil hb2
  have hs2 := hb2.size
  clear hb2 hgp
  go_wp2_with fail
  go_region_held3 (fun _ => True) (trivial) (first
    | (go_at_call 20; refine (txMark_any B M _ H.out).mono ?_; rintro e3 w3 ⟨rfl, hw3⟩; obtain rfl := hw3.symm)
    | (go_at_call 19; refine (reading_no _).mono ?_; rintro e4 w4 ⟨rfl, hw4⟩; obtain rfl := hw4.symm)
    | (go_at_call 38; refine (reads_plain c _ (HCO.out _ (HQ.out.below (HB2.out.drew))) (by have := HCL.out; omega)).mono ?_; rintro e5 w5 ⟨s5, E5, rfl, hc5, hb5⟩))
  have b5 : Below w.heap.size w w5 := HB2.out.drew.trans (hb5.mono hs2)
  have HB5 := veil b5
  clear b5 hb5 HB2 hand hmk
  rcases hc5 with ⟨hr, rfl, rfl⟩ | ⟨t, hr, rfl, rfl⟩
  · have hv : getXV M q.b = .tuple #[.int .u8 0, .string ⟨#[]⟩, .int .i64 0, .int .i64 5] := getXV_no (by rw [HX.out, hr]; rfl)
    have HV := veil hv
    clear hv hr
    go_wp2_with fail
    exact bodyPost_ret (v := .tuple #[.int .u8 0, .string ⟨#[]⟩, .int .i64 0, .int .i64 5]) (by simp [results, Try.results10, go_sem]) rfl ⟨by rw [HV.out], HB5.out⟩
  · have hsz : (strOf t).size = t.length := strOf_size t
    have HSZ := veil hsz
    by_cases hbig : 65536 < t.length
    · have hv : getXV M q.b = .tuple #[.int .u8 0, .string ⟨#[]⟩, .int .i64 0, .int .i64 3] := getXV_no (by rw [HX.out, hr]; unfold Tx.fin; simp only; rw [if_pos hbig])
      have HV := veil hv
      have hI : ((strOf t).size : Int) > 65536 := by rw [hsz]; omega
      clear hv hr hsz hbig
      go_wp2_with fail
      exact bodyPost_ret (v := .tuple #[.int .u8 0, .string ⟨#[]⟩, .int .i64 0, .int .i64 3]) (by simp [results, Try.results10, go_sem]) rfl ⟨by rw [HV.out], HB5.out⟩
    · have hv : getXV M q.b = .tuple #[.int .u8 ((A : Int) - mm), .string (strOf t), .int .i64 (E0 : Int), .int .i64 0] := getXV_of (by rw [HX.out, hr]; unfold Tx.fin; simp only; rw [if_neg hbig])
      have HV := veil hv
      have hI : ¬ ((strOf t).size : Int) > 65536 := by rw [hsz]; omega
      clear hv hr hsz hbig
      go_wp2_with fail
      refine (txMark_any B M _ H.out).mono ?_
      rintro e6 w6 ⟨rfl, hw6⟩
      obtain rfl := hw6.symm
      go_wp2_with fail
      exact bodyPost_ret (v := .tuple #[.int .u8 ((A : Int) - mm), .string (strOf t), .int .i64 (E0 : Int), .int .i64 0]) (by simp [results, Try.results10, go_sem]) rfl ⟨by rw [HV.out], HB5.out⟩

set_option maxRecDepth 20000 in
set_option maxHeartbeats 2000000 in
theorem xget_err (q : SL) (B M e : Int) (w : World) (h : Tx.Bt B M) (hq : q.Ok w) (hl : q.len ≤ 1073741824) (hp : Vi.getP M (Tx.zs q.b) = (0, 0, 0, e)) (he : e ≠ 0) :
    Calls Try.prog 10 #[.int .i64 B, .slice q.a q.len q.cap] w fun e w' => e = .returned (getXV M q.b) ∧ Below w.heap.size w w' := by
  have hbd := h.bd
  have hv := getXV_no (Tx.getX_err hp he)
  have hpv : Vi.getPV M (Tx.zs q.b) = .tuple #[.int .u8 0, .int .u64 0, .int .i64 0, .int .i64 e] := by unfold Vi.getPV; rw [hp]
  have hgp := Vi.getp_any q.a q.len q.cap (Tx.zs q.b) (B - 1) M w h.low (by rw [Tx.zs_length]; exact hq.hb) hl hq.hcap (lies_sl hq) (Tx.zs_byte q.b)
  rw [hpv] at hgp
  have hne : (e != 0) = true := by simpa using he
  have HV := veil hv
  have hB1 : IntKind.i64.wrap (B - 1) = B - 1 := by rw [IntKind.wrap_i64]; omega
  clear h hq hp hpv hv he
  go_enter Try.func10, Try.ntmps10
  go_wp2_with fail
  refine (txMay_yes _ _ hbd.1 hbd.2.1).mono ?_
  rintro e1 w1 ⟨rfl, hw1⟩
  obtain rfl := hw1.symm
  go_wp2_with fail
  refine hgp.mono ?_
  rintro e2 w2 ⟨rfl, hb2⟩
  have HB2 := veil hb2
  clear hb2 hgp
  go_wp2_with fail
  exact bodyPost_ret (v := .tuple #[.int .u8 0, .string ⟨#[]⟩, .int .i64 0, .int .i64 e]) (by simp [results, Try.results10, go_sem]) rfl ⟨by rw [HV.out], HB2.out⟩
set_option maxRecDepth 20000 in
set_option maxHeartbeats 2000000 in
theorem xget_lim (q : SL) (B M : Int) (A n k : Nat) (w : World) (h : Tx.Bt B M) (hq : q.Ok w) (hl : q.len ≤ 1073741824) (hp : Vi.getP M (Tx.zs q.b) = ((A : Int), (n : Int), (k : Int), 0)) (hx : 65536 < n) :
    Calls Try.prog 10 #[.int .i64 B, .slice q.a q.len q.cap] w fun e w' => e = .returned (getXV M q.b) ∧ Below w.heap.size w w' := by
  have hbd := h.bd
  have hv := getXV_no (Tx.getX_big hp (by omega))
  have hpv : Vi.getPV M (Tx.zs q.b) = .tuple #[.int .u8 (A : Int), .int .u64 (n : Int), .int .i64 (k : Int), .int .i64 0] := by unfold Vi.getPV; rw [hp]
  have hgp := Vi.getp_any q.a q.len q.cap (Tx.zs q.b) (B - 1) M w h.low (by rw [Tx.zs_length]; exact hq.hb) hl hq.hcap (lies_sl hq) (Tx.zs_byte q.b)
  rw [hpv] at hgp
  have d1 : decide ((65536 : Int) < (n : Int)) = true := decide_eq_true (by omega)
  have HV := veil hv
  have hB1 : IntKind.i64.wrap (B - 1) = B - 1 := by rw [IntKind.wrap_i64]; omega
  clear h hq hp hpv hv
  go_enter Try.func10, Try.ntmps10
  go_wp2_with fail
  refine (txMay_yes _ _ hbd.1 hbd.2.1).mono ?_
  rintro e1 w1 ⟨rfl, hw1⟩
  obtain rfl := hw1.symm
  go_wp2_with fail
  refine hgp.mono ?_
  rintro e2 w2 ⟨rfl, hb2⟩
  have HB2 := veil hb2
  clear hb2 hgp
  go_wp2_with fail
  exact bodyPost_ret (v := .tuple #[.int .u8 0, .string ⟨#[]⟩, .int .i64 0, .int .i64 3]) (by simp [results, Try.results10, go_sem]) rfl ⟨by rw [HV.out], HB2.out⟩
set_option maxRecDepth 20000 in
set_option maxHeartbeats 2000000 in
theorem xget_short (q : SL) (B M : Int) (A n k : Nat) (w : World) (h : Tx.Bt B M) (hq : q.Ok w) (hl : q.len ≤ 1073741824) (hp : Vi.getP M (Tx.zs q.b) = ((A : Int), (n : Int), (k : Int), 0)) (hn : n ≤ 65536) (hkl : k ≤ q.len) (hx : q.len < k + n) :
    Calls Try.prog 10 #[.int .i64 B, .slice q.a q.len q.cap] w fun e w' => e = .returned (getXV M q.b) ∧ Below w.heap.size w w' := by
  have hbd := h.bd
  have hv := getXV_no (Tx.getX_short hp (by omega) (by rw [hq.hb]; omega))
  have hpv : Vi.getPV M (Tx.zs q.b) = .tuple #[.int .u8 (A : Int), .int .u64 (n : Int), .int .i64 (k : Int), .int .i64 0] := by unfold Vi.getPV; rw [hp]
  have hgp := Vi.getp_any q.a q.len q.cap (Tx.zs q.b) (B - 1) M w h.low (by rw [Tx.zs_length]; exact hq.hb) hl hq.hcap (lies_sl hq) (Tx.zs_byte q.b)
  rw [hpv] at hgp
  have hsub : IntKind.i64.wrap ((q.len : Int) - (k : Int)) = (q.len : Int) - (k : Int) := by rw [IntKind.wrap_i64]; omega
  have hcvu : IntKind.u64.wrap ((q.len : Int) - (k : Int)) = (q.len : Int) - (k : Int) := by rw [IntKind.wrap_u64]; omega
  have d1 : decide ((65536 : Int) < (n : Int)) = false := decide_eq_false (by omega)
  have d2 : decide ((q.len : Int) - (k : Int) < (n : Int)) = true := decide_eq_true (by omega)
  have HV := veil hv
  have hB1 : IntKind.i64.wrap (B - 1) = B - 1 := by rw [IntKind.wrap_i64]; omega
  clear h hq hp hpv hv
  go_enter Try.func10, Try.ntmps10
  go_wp2_with fail
  refine (txMay_yes _ _ hbd.1 hbd.2.1).mono ?_
  rintro e1 w1 ⟨rfl, hw1⟩
  obtain rfl := hw1.symm
  go_wp2_with fail
  refine hgp.mono ?_
  rintro e2 w2 ⟨rfl, hb2⟩
  have HB2 := veil hb2
  clear hb2 hgp
  go_wp2_with fail
  exact bodyPost_ret (v := .tuple #[.int .u8 0, .string ⟨#[]⟩, .int .i64 0, .int .i64 4]) (by simp [results, Try.results10, go_sem]) rfl ⟨by rw [HV.out], HB2.out⟩

/-- text.Get, at any bytes, bits from 2 to 8. -/
theorem xget_any (q : SL) (B M : Int) (w : World) (h : Tx.Bt B M) (hq : q.Ok w) (hl : q.len ≤ 1073741824) :
    Calls Try.prog 10 #[.int .i64 B, .slice q.a q.len q.cap] w fun e w' => e = .returned (getXV M q.b) ∧ Below w.heap.size w w' := by
  rcases Tx.getP_nat h q.b with ⟨e, h1, h2, h3⟩ | ⟨A, n, k, h1, h2, h3, h4, h5, h6⟩
  · exact xget_err q B M e w h hq hl h1 (by omega)
  have hA := h2.f1
  rw [hq.hb] at h5
  by_cases hn : 65536 < n
  · exact xget_lim q B M A n k w h hq hl h1 hn
  by_cases hs : q.len < k + n
  · exact xget_short q B M A n k w h hq hl h1 (by omega) h5 hs
  cases hm : Tx.mkd M A with
  | true => exact xget_few q B M A n k w h hq hl h1 (by omega) (by omega) (by omega) hm
  | false => exact xget_plain q B M A n k w h hq hl h1 (by omega) (by omega) (by omega) hm
end Go.Proofs.Ytiecpkkklefjdaa
