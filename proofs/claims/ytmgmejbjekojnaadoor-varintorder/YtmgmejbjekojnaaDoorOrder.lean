/-
  VarintOrder: of two numbers with as many bytes the greater one has the greater bytes; one with fewer bytes is the smaller one.
  For every two numbers, where varint.lengths holds what its own initialiser lays (the card ties it).
-/
import Derived.Test.YtmgmejbjekojnaaDoorAlive
import Derived.Test.YtmgmejbjekojnaaDoorOrderMath
import Derived.Test.YtmgmejbjekojnaaDoorLift
import Derived.Deep.QuietTactic
import Derived.BigQuiet
namespace Go.Proofs.YtmgmejbjekojnaaDoor
open Go.ChangeShapes Go.WideShapes Go.ChangeAt Go.RowKit

set_option maxHeartbeats 1000000 in
theorem order_bad1 (n m : Int) (w : World) (hn : 4611686018427387903 < n) (hm0 : 0 ≤ m) (hL : Lens w) :
    Calls Tryd.prog 5 #[.int .u64 n, .int .u64 m] w fun e w' => e = .returned (.bool true) ∧ Below w.heap.size w w' := by
  have HL : Hid (Lens w) := hL
  clear hL
  go_enter Tryd.func5, Tryd.ntmps5
  go_wp2_with fail
  refine (put_no n w hn).mono ?_
  rintro e1 w1 ⟨rfl, hw1⟩
  obtain rfl := hw1.symm
  go_wp2_with fail
  by_cases hm : m < 4611686018427387904
  · refine (put_own m w hm0 hm HL.out).mono ?_
    rintro e2 w2 ⟨g, rfl, _, hb2⟩
    have HL2 : Hid (Lens w2) := HL.out.step hb2
    go_wp2_with fail
    refine (alive_any _ HL2.out).mono ?_
    rintro e3 w3 ⟨rfl, hb3⟩
    have HL3 : Hid (Lens w3) := HL2.out.step hb3
    go_wp2_with fail
    refine (alive_any _ HL3.out).mono ?_
    rintro e4 w4 ⟨rfl, hb4⟩
    go_wp2
    go_ret
    exact ⟨rfl, (hb2.trans (hb3.mono hb2.size)).trans (hb4.mono (hb2.trans (hb3.mono hb2.size)).size)⟩
  · refine (put_no m w (by omega)).mono ?_
    rintro e2 w2 ⟨rfl, hw2⟩
    obtain rfl := hw2.symm
    go_wp2_with fail
    refine (alive_any _ HL.out).mono ?_
    rintro e3 w3 ⟨rfl, hb3⟩
    have HL3 : Hid (Lens w3) := HL.out.step hb3
    go_wp2_with fail
    refine (alive_any _ HL3.out).mono ?_
    rintro e4 w4 ⟨rfl, hb4⟩
    go_wp2
    go_ret
    exact ⟨rfl, hb3.trans (hb4.mono hb3.size)⟩

set_option maxHeartbeats 1000000 in
theorem order_bad2 (n m : Int) (w : World) (hn0 : 0 ≤ n) (hn : n < 4611686018427387904) (hm : 4611686018427387903 < m) (hL : Lens w) :
    Calls Tryd.prog 5 #[.int .u64 n, .int .u64 m] w fun e w' => e = .returned (.bool true) ∧ Below w.heap.size w w' := by
  have HL : Hid (Lens w) := hL
  clear hL
  go_enter Tryd.func5, Tryd.ntmps5
  go_wp2_with fail
  refine (put_own n w hn0 hn HL.out).mono ?_
  rintro e2 w2 ⟨g, rfl, _, hb2⟩
  have HL2 : Hid (Lens w2) := HL.out.step hb2
  go_wp2_with fail
  refine (put_no m w2 hm).mono ?_
  rintro e1 w1 ⟨rfl, hw1⟩
  obtain rfl := hw1.symm
  go_wp2_with fail
  refine (alive_any _ HL2.out).mono ?_
  rintro e3 w3 ⟨rfl, hb3⟩
  have HL3 : Hid (Lens w3) := HL2.out.step hb3
  go_wp2_with fail
  refine (alive_any _ HL3.out).mono ?_
  rintro e4 w4 ⟨rfl, hb4⟩
  go_wp2
  go_ret
  exact ⟨rfl, (hb2.trans (hb3.mono hb2.size)).trans (hb4.mono (hb2.trans (hb3.mono hb2.size)).size)⟩

set_option maxHeartbeats 2000000 in
theorem order_good (n m : Int) (w : World) (hn0 : 0 ≤ n) (hn : n < 4611686018427387904) (hm0 : 0 ≤ m) (hm : m < 4611686018427387904) (hL : Lens w) :
    Calls Tryd.prog 5 #[.int .u64 n, .int .u64 m] w fun e w' => e = .returned (.bool true) ∧ Below w.heap.size w w' := by
  have HL : Hid (Lens w) := hL
  clear hL
  go_enter Tryd.func5, Tryd.ntmps5
  go_wp2_with fail
  refine (put_own n w hn0 hn HL.out).mono ?_
  rintro e1 w1 ⟨g1, rfl, ho1, hb1⟩
  have HL1 : Hid (Lens w1) := HL.out.step hb1
  go_wp2_with fail
  refine (put_own m w1 hm0 hm HL1.out).mono ?_
  rintro e2 w2 ⟨g2, rfl, ho2, hb2⟩
  have HL2 : Hid (Lens w2) := HL1.out.step hb2
  have hla1 := ho1.lies.belowL hb2
  have hla2 := ho2.lies
  have hb12 := hb1.trans (hb2.mono hb1.size)
  clear ho1 ho2 hb1 hb2
  go_wp2_with fail
  refine (alive_any _ HL2.out).mono ?_
  rintro e3 w3 ⟨rfl, hb3⟩
  have HA : Hid (Lies w3 (some ⟨g1, 0, none⟩) (putL n)) := hla1.belowL hb3
  have HC : Hid (Lies w3 (some ⟨g2, 0, none⟩) (putL m)) := hla2.belowL hb3
  have HB : Hid (Below w.heap.size w w3) := hb12.trans (hb3.mono hb12.size)
  have hp1 := putL_len n
  have hp2 := putL_len m
  clear hla1 hla2 hb12 hb3 HL1 HL2
  by_cases hlen : (putL n).length = (putL m).length
  · have HF1 := fun i (hi : i < (putL n).length) (ht : (putL n).take i = (putL m).take i) h => putL_first n m i hn0 hn hm0 hm hlen hi ht h
    have HF2 := fun i (hi : i < (putL m).length) (ht : (putL m).take i = (putL n).take i) h => putL_first m n i hm0 hm hn0 hn hlen.symm hi ht h
    have HI := putL_inj n m hn0 hn hm0 hm
    have HLa : Hid ((putL n).length = (putL m).length) := hlen
    generalize putL n = pn at *
    generalize putL m = pm at *
    obtain ⟨L, hL1⟩ : ∃ L, pm.length = L := ⟨_, rfl⟩
    have HL2 : Hid (pm.length = L) := hL1
    have HL1 : Hid (pn.length = L) := hlen.trans hL1
    rw [hlen, hL1] at HF1
    rw [hL1] at HF2
    rw [hlen, hL1] at hp1
    rw [hlen, hL1]
    clear hlen hL1 HLa hp2
    have hne : ((L : Int) != (L : Int)) = false := by simp
    go_wp2
    go_loopw [9] (fun i wr => ∃ k : Nat, k ≤ L ∧ i = .int .i64 k ∧ Below w3.heap.size w3 wr ∧ pn.take k = pm.take k)
      (fun i _ => L - (intOf i).toNat)
    case atStart => exact ⟨0, Nat.zero_le _, rfl, Below.refl _ _, rfl⟩
    case round =>
      obtain ⟨k, hk, rfl, hbel, htk⟩ := hrel
      have HT : Hid (pn.take k = pm.take k) := htk
      clear htk
      by_cases hlt : k < L
      · obtain ⟨b1, o1, h1, hc1⟩ := (HA.out.belowL hbel).at (k := k) (by rw [HL1.out]; exact hlt)
        obtain ⟨b2, o2, h2, hc2⟩ := (HC.out.belowL hbel).at (k := k) (by rw [HL2.out]; exact hlt)
        cases h1
        cases h2
        rw [Nat.zero_add] at hc1 hc2
        have hd : decide ((k : Int) < (L : Int)) = true := by simp; omega
        by_cases he : pn[k]?.getD 0 = pm[k]?.getD 0
        · have HN : Hid (pn.take (k + 1) = pm.take (k + 1)) := take_more (by rw [HL1.out]; exact hlt) (by rw [HL2.out]; exact hlt) HT.out he
          rw [he] at hc1
          clear he HT HF1 HF2 HI
          generalize pm[k]?.getD 0 = y at *
          go_wp2
          go_quiet (fail)
          go_wp2
          go_roundw
          case rel => exact ⟨k + 1, by omega, by go_num, below_drewN hbel nq, HN.out⟩
          case measure => simp [intOf]; omega
        · have HFN : Hid ((decide (pn[k]?.getD 0 < pm[k]?.getD 0) == decide (n < m)) = true) := by
            by_cases hx : pn[k]?.getD 0 < pm[k]?.getD 0
            · have h := HF1 k hlt HT.out hx
              show (decide (pn[k]?.getD 0 < pm[k]?.getD 0) == decide (n < m)) = true
              simp [hx, h]
            · have h := HF2 k hlt HT.out.symm (by omega)
              show (decide (pn[k]?.getD 0 < pm[k]?.getD 0) == decide (n < m)) = true
              simp [hx]
              omega
          have hxy : (pn[k]?.getD 0 == pm[k]?.getD 0) = false := by simpa using he
          clear he HT HF1 HF2 HI
          generalize pm[k]?.getD 0 = y at *
          generalize pn[k]?.getD 0 = x at *
          have hkL : ((k : Int) == (L : Int)) = false := by simp; omega
          go_wp2
          go_quiet (fail)
          go_wp2
          go_quiet (fail)
          go_wp2
          go_ret
          exact ⟨ret_bool HFN.out, HB.out.trans ((below_drewN (below_drewN hbel _) _).mono HB.out.size)⟩
      · have hkl : k = L := by omega
        subst hkl
        have HE : Hid (n = m) := HI (by
          have h := HT.out
          rw [List.take_of_length_le (by rw [HL1.out]; exact Nat.le_refl _), List.take_of_length_le (by rw [HL2.out]; exact Nat.le_refl _)] at h
          exact h)
        have hd : decide ((k : Int) < (k : Int)) = false := by simp
        clear HT HF1 HF2 HI
        go_wp2
        go_quiet (fail)
        go_wp2
        go_ret
        exact ⟨ret_bool (by simp [HE.out]), HB.out.trans ((below_drewN hbel _).mono HB.out.size)⟩
  · have HFN : Hid ((decide ((putL n).length < (putL m).length) == decide (n < m)) = true) := by
      by_cases hx : (putL n).length < (putL m).length
      · have h := putL_len_lt n m hn0 hn hm0 hm hx
        show (decide ((putL n).length < (putL m).length) == decide (n < m)) = true
        simp [hx, h]
      · have h := putL_len_lt m n hm0 hm hn0 hn (by omega)
        show (decide ((putL n).length < (putL m).length) == decide (n < m)) = true
        simp [hx]
        omega
    generalize (putL n).length = A at *
    generalize (putL m).length = B at *
    have hne : ((A : Int) != (B : Int)) = true := by simp; omega
    go_wp2
    go_ret
    exact ⟨ret_bool (by have := HFN.out; simpa using this), HB.out⟩

theorem order_walk (n m : Int) (w : World) (hn0 : 0 ≤ n) (hm0 : 0 ≤ m) (hL : Lens w) :
    Calls Tryd.prog 5 #[.int .u64 n, .int .u64 m] w fun e w' => e = .returned (.bool true) ∧ Below w.heap.size w w' := by
  by_cases hn : n < 4611686018427387904
  · by_cases hm : m < 4611686018427387904
    · exact order_good n m w hn0 hn hm0 hm hL
    · exact order_bad2 n m w hn0 hn (by omega) hL
  · exact order_bad1 n m w (by omega) hm0 hL
/-! ### The row -/
set_option maxRecDepth 100000 in
theorem order_lifted (os : Os) (started : os.Started) (H : Type) (enc : TypeId × Value → H) :
    ReturnsInHanded {} Tryd.checked os 5 .any (fun w args => (Rows.varintOrderSpec.pre enc Tryd.prog Tryd.f5 [] false w args ∧ laidMetH Tryd.prog laid1 w) ∧ sizedMet enc Tryd.prog Tryd.f5 (OpenSpec.ofChange Rows.varintOrderSpec) false w args)
      (Rows.varintOrderSpec.post enc Tryd.prog Tryd.f5 false true false false) := by
  refine returnsInHanded_of_change_and (C := Tryd.checked) (X := fun w _ => laidMetH Tryd.prog laid1 w) (fun _ _ _ hh h => h.of_heap hh) own started (by kernel_rfl) Tryd.func5
    (ChangeSpec.witness_shaped (enc := enc) (C := Tryd.checked) (os := os) (X := fun w _ => laidMetH Tryd.prog laid1 w) false (World.doorLaid Tryd.prog 400 os) #[.int .u64 0, .int .u64 0] 8 rfl (World.shaped_of_RefB (by kernel_rfl) (by kernel_rfl)) (by kernel_rfl) (by kernel_rfl) (by kernel_rfl) (door_met os _)) ?_
  intro W base args ds gs before hval0 hW _ _ hL _
  have hval : ∀ (j : Nat) t v, Tryd.f5.params[j]? = some t → args[j]? = some v → Value.okWide Tryd.prog W .any base t v := hval0
  have hW' := hW
  obtain ⟨p, q, hA0, hV, rfl, hfz, hnd⟩ := hW
  have hA : DataW.TrodAll enc Tryd.prog W 0 (fun _ => true) true Tryd.f5.params.toList args.toList ds p := hA0
  rw [Tryd.params5] at hA hval
  obtain ⟨v0, vs0, d0, ds0, p0, q0, hargs, rfl, rfl, h0, r0⟩ := trodAll_cons hA
  obtain ⟨v1, vs1, d1, ds1, p1, q1, rfl, rfl, rfl, h1, r1⟩ := trodAll_cons r0
  obtain ⟨rfl, rfl, rfl⟩ := trodAll_nil r1
  obtain rfl : args = #[v0, v1] := by cases args; simp_all
  obtain ⟨rfl, rfl⟩ := trodVars_none hV
  obtain ⟨a0, rfl, rfl, rfl, w0⟩ := open_int Tryd.underlying25 (hval 0 25 v0 rfl rfl) h0
  have bd0 := bounds_u64 w0
  obtain ⟨a1, rfl, rfl, rfl, w1⟩ := open_int Tryd.underlying25 (hval 1 25 v1 rfl rfl) h1
  have bd1 := bounds_u64 w1
  clear hA0 hval0
  simp only [List.append_nil] at hW'
  refine (order_walk a0 a1 W bd0.1 bd1.1 (of_laid hL)).mono fun e W' ⟨he, bel⟩ => ?_
  subst he
  exact ⟨_, rfl, _, _, _, [], _, [], hW', trodAll_mk1 (shut_bool Tryd.underlying4 _), (trodAll_cons_mk (shut_int Tryd.underlying25 w0) (trodAll_cons_mk (shut_int Tryd.underlying25 w1) trodAll_mk0)), rfl, bel.frame _, fun h => by cases h⟩

theorem order_holds : Rows.VarintOrderSaid :=
  OpenClaim.holds_of_wide 5 Tryd.f5 rfl rfl rfl rfl rfl rfl rfl ⟨rfl, rfl, rfl, rfl, rfl⟩ rfl rfl rfl rfl rfl (by kernel_rfl) Tryd.func5 (by kernel_rfl)
    (of_decide_eq_true (by kernel_rfl)) (by unfold Func.isWrapper; first | (rw [if_pos (by decide +kernel)]; kernel_rfl) | (rw [if_neg (by decide +kernel)]; exact ⟨rfl, rfl⟩))
    (fun os started H enc _ => order_lifted os started H enc)

theorem varintOrder_card : Rows.VarintOrderCardSaid :=
  Claim7.holds_tied_plain_at .later [] [.data] true (true, "6827b3b49ff6a28c02ae14668346ec4938934fd8076c44a8f347ad44f629ef54") false
    order_holds (fun _ h => by cases h) (by kernel_rfl) (fun _ h => by cases h) varintOrder_row_tie rfl ⟨rfl, rfl⟩ (by kernel_rfl) rfl
    (fun f fn hf hfn => by
      obtain rfl : f = 5 := Option.some.inj ((show Tryd.prog.funcNamed "mailcoach/mailcoachlaw01.VarintOrder" = some 5 by kernel_rfl).symm.trans hf) |>.symm
      obtain rfl : fn = Tryd.f5 := (Option.some.inj (Tryd.func5.symm.trans hfn)).symm
      exact ⟨by kernel_rfl, fun j t ht => by
        rw [Tryd.params5] at ht
        have hm : t ∈ [25, 25] := by simpa using Array.mem_of_getElem? ht
        have hall : ([25, 25].all fun u => !Tryd.prog.wantsStandIn u) = true := by kernel_rfl
        exact (show Tryd.prog.wantsStandIn t = false by simpa using List.all_eq_true.1 hall t hm)⟩)
    (by kernel_rfl)
#print axioms varintOrder_card
end Go.Proofs.YtmgmejbjekojnaaDoor
