/-
  VarintAgain: what is got, of either kind, is got again when it is put, from as many bytes at most.
  For every number of bits and every slice of bytes, where varint.lengths holds what its own initialiser lays (the card ties it).
-/
import Derived.Test.YtmgmejbjekojnaaDoorAlive
import Derived.Test.YtmgmejbjekojnaaDoorAgainMath
import Derived.Test.YtmgmejbjekojnaaDoorPutCases
import Derived.Test.YtmgmejbjekojnaaDoorLift
namespace Go.Proofs.YtmgmejbjekojnaaDoor
open Go.ChangeShapes Go.WideShapes Go.ChangeAt Go.RowKit

theorem getV_is {zs : List Int} {x : Int} {k : Nat} {e : Int} (h : getR zs = (x, k, e)) : getV zs = .tuple #[.int .u64 x, .int .i64 k, .int .i64 e] := by unfold getV; rw [h]

/-- GetPrefix, at whatever bits: refused, or what may be put again. -/
theorem getp_again (a : Option Addr) (len cap : Nat) (zs : List Int) (b : Int) (w : World) (hz : zs.length = len) (hl : len ≤ 1073741824) (hcap : len ≤ cap) (hLies : Lies w a zs) (hb : ∀ j : Nat, 0 ≤ zs[j]?.getD 0 ∧ zs[j]?.getD 0 ≤ 255) :
    (∃ e, 1 ≤ e ∧ e ≤ 5 ∧ Calls Tryd.prog 17 #[.int .i64 b, .slice a len cap] w fun r w' => r = .returned (.tuple #[.int .u8 0, .int .u64 0, .int .i64 0, .int .i64 e]) ∧ Below w.heap.size w w') ∨
    (∃ M ab x j, MayPut ab b M x ∧ ((putP ab M x).length : Int) ≤ j ∧ j ≤ len ∧ j ≤ 11 ∧ Calls Tryd.prog 17 #[.int .i64 b, .slice a len cap] w fun r w' => r = .returned (.tuple #[.int .u8 ab, .int .u64 x, .int .i64 j, .int .i64 0]) ∧ Below w.heap.size w w') := by
  by_cases hbb : 1 ≤ b ∧ b ≤ 8
  · obtain ⟨M, hM⟩ := IsMask.of b hbb.1 hbb.2
    have hc := getp_any a len cap zs b M w hM hz hl hcap hLies hb
    rcases getP_again M b zs hM hb with ⟨e, h1, h2, h3⟩ | ⟨ab, x, j, h1, h2, h3, h4, h5⟩
    · rw [getPV_of h1] at hc
      exact .inl ⟨e, by omega, h3, hc⟩
    · rw [getPV_of h1] at hc
      exact .inr ⟨M, ab, x, j, h2, h3, by rw [← hz]; exact h4, h5, hc⟩
  · refine .inl ⟨1, by decide, by decide, ?_⟩
    exact (getp_bits a len cap b w (by omega)).mono fun r w' ⟨h1, h2⟩ => ⟨h1, by rw [h2]; exact Below.refl _ _⟩

set_option maxHeartbeats 8000000 in
theorem again_walk (b : Int) (a : Option Addr) (len cap : Nat) (zs : List Int) (w : World) (hz : zs.length = len) (hm : len ≤ 9223372036854775807) (hcap : len ≤ cap) (hLies : Lies w a zs) (hb : ∀ j : Nat, 0 ≤ zs[j]?.getD 0 ∧ zs[j]?.getD 0 ≤ 255) (hL : Lens w) :
    Calls Tryd.prog 7 #[.int .i64 b, .slice a len cap] w fun e w' => e = .returned (.bool true) ∧ Below w.heap.size w w' := by
  have HL : Hid (Lens w) := hL
  have HZ : Hid (zs.length = len) := hz
  have HS : Hid (Lies w a zs) := hLies
  have HB : Hid (∀ j : Nat, 0 ≤ zs[j]?.getD 0 ∧ zs[j]?.getD 0 ≤ 255) := hb
  clear hL hz hLies hb
  go_enter Tryd.func7, Tryd.ntmps7
  go_wp2_with fail
  refine (alive_any w HL.out).mono ?_
  rintro e1 w1 ⟨rfl, hb1⟩
  have hb2 := below_new w1 (.cells #[.int .i64 (len : Int)] 3)
  have HB2 : Hid (Below w.heap.size w (w1.alloc (.cells #[.int .i64 (len : Int)] 3))) := hb1.trans (hb2.mono hb1.size)
  have HL2 : Hid (Lens (w1.alloc (.cells #[.int .i64 (len : Int)] 3))) := HL.out.step HB2.out
  have HS2 : Hid (Lies (w1.alloc (.cells #[.int .i64 (len : Int)] 3)) a zs) := HS.out.belowL HB2.out
  clear hb1 hb2 HS
  go_wp2_with fail
  by_cases hl : len ≤ 1048576
  · refine (beyond_no _ _ (len : Int) _ (by omega) (by omega) (by simp)).mono ?_
    rintro e2 w2 ⟨rfl, hw2⟩
    obtain rfl := hw2.symm
    generalize hW : w1.alloc (.cells #[.int .i64 (len : Int)] 3) = w3 at *
    clear hW hw2
    go_wp2_with fail
    refine (get_any _ len cap zs w3 HZ.out (by omega) hcap HS2.out HB.out HL2.out).mono ?_
    rintro e3 w4 ⟨rfl, hw4⟩
    obtain rfl := hw4.symm
    rcases getR_again zs HB.out with hr | ⟨n, K, hr, hn0, hn1, hn2, hn3⟩
    · rw [getV_is hr]
      clear hr hw4
      go_wp2_with fail
      rcases getp_again a len cap zs b w3 HZ.out (by omega) hcap HS2.out HB.out with ⟨e, he0, he1, hcc⟩ | ⟨M, ab, x, j, hMP, hj1, hj2, hj3, hcc⟩
      · refine hcc.mono ?_
        rintro e7 w7 ⟨rfl, hb7⟩
        have hne : (e != 0) = true := by simp; omega
        clear hcc
        go_wp2
        go_ret
        exact ⟨rfl, HB2.out.trans (hb7.mono HB2.out.size)⟩
      · refine hcc.mono ?_
        rintro e7 w7 ⟨rfl, hb7⟩
        have HB7 : Hid (Below w.heap.size w w7) := HB2.out.trans (hb7.mono HB2.out.size)
        have HMP : Hid (MayPut ab b M x) := hMP
        have hl1 := putP_len ab M x
        clear hcc hMP hb7
        go_wp2_with fail
        refine (putp_own ab b M x w7 HMP.out.mask HMP.out.f0 HMP.out.f1 HMP.out.n0 HMP.out.n1 HMP.out.fm).mono ?_
        rintro e8 w8 ⟨g8, c8, rfl, _, hb8⟩
        have HB8 : Hid (Below w.heap.size w w8) := HB7.out.trans (hb8.mono HB7.out.size)
        clear hb8
        generalize (putP ab M x).length = P at *
        have d1 : decide ((P : Int) ≤ j) = true := by simp; omega
        have d2 : decide (j ≤ (len : Int)) = true := by simp; omega
        have d3 : decide (j ≤ 11) = true := by simp; omega
        go_wp2
        go_ret
        exact ⟨rfl, HB8.out⟩
    · rw [getV_is hr]
      rw [HZ.out] at hn3
      clear hr hw4
      go_wp2_with fail
      refine (put_own n w3 hn0 hn1 HL2.out).mono ?_
      rintro e5 w5 ⟨g5, rfl, ho5, hb5⟩
      have HL5 : Hid (Lens w5) := HL2.out.step hb5
      have HS5 : Hid (Lies w5 a zs) := HS2.out.belowL hb5
      have HB5 : Hid (Below w.heap.size w w5) := HB2.out.trans (hb5.mono HB2.out.size)
      have HP5 : Hid (Lies w5 (some ⟨g5, 0, none⟩) (putL n)) := ho5.lies
      have HR5 := getV_is (getR_put n [] hn0 hn1)
      have hby := bytes_lit _ (putL_bytes n hn0 hn1)
      have hp := putL_len n
      rw [List.append_nil] at HR5
      clear ho5 hb5
      generalize putL n = pn at *
      obtain ⟨L, hLL⟩ : ∃ L, pn.length = L := ⟨_, rfl⟩
      have HLL : Hid (pn.length = L) := hLL
      rw [hLL] at hn2 hp HR5 ⊢
      have HRR : Hid (getV pn = .tuple #[.int .u64 n, .int .i64 L, .int .i64 0]) := HR5
      clear hLL HR5
      go_wp2_with fail
      refine (get_any _ L L pn w5 HLL.out (by omega) (Nat.le_refl _) HP5.out hby HL5.out).mono ?_
      rintro e6 w6 ⟨rfl, hw6⟩
      obtain rfl := hw6.symm
      rw [HRR.out]
      clear hby HRR HP5 hw6
      have j1 : ((L : Int) != (L : Int)) = false := by simp
      have j2 : (n != n) = false := by simp
      have j3 : ¬ ((K : Int) < (L : Int)) := by omega
      have j4 : ¬ ((len : Int) < (K : Int)) := by omega
      go_wp2_with fail
      rcases getp_again a len cap zs b w5 HZ.out (by omega) hcap HS5.out HB.out with ⟨e, he0, he1, hcc⟩ | ⟨M, ab, x, j, hMP, hj1, hj2, hj3, hcc⟩
      · refine hcc.mono ?_
        rintro e7 w7 ⟨rfl, hb7⟩
        have hne : (e != 0) = true := by simp; omega
        clear hcc
        go_wp2
        go_ret
        exact ⟨rfl, HB5.out.trans (hb7.mono HB5.out.size)⟩
      · refine hcc.mono ?_
        rintro e7 w7 ⟨rfl, hb7⟩
        have HB7 : Hid (Below w.heap.size w w7) := HB5.out.trans (hb7.mono HB5.out.size)
        have HMP : Hid (MayPut ab b M x) := hMP
        have hl1 := putP_len ab M x
        clear hcc hMP hb7
        go_wp2_with fail
        refine (putp_own ab b M x w7 HMP.out.mask HMP.out.f0 HMP.out.f1 HMP.out.n0 HMP.out.n1 HMP.out.fm).mono ?_
        rintro e8 w8 ⟨g8, c8, rfl, _, hb8⟩
        have HB8 : Hid (Below w.heap.size w w8) := HB7.out.trans (hb8.mono HB7.out.size)
        clear hb8
        generalize (putP ab M x).length = P at *
        have d1 : decide ((P : Int) ≤ j) = true := by simp; omega
        have d2 : decide (j ≤ (len : Int)) = true := by simp; omega
        have d3 : decide (j ≤ 11) = true := by simp; omega
        go_wp2
        go_ret
        exact ⟨rfl, HB8.out⟩
  · refine (beyond_yes _ _ (len : Int) _ (by omega) (by omega) (by simp)).mono ?_
    rintro e2 w2 ⟨rfl, hw2⟩
    obtain rfl := hw2.symm
    go_wp2_with fail
    refine (alive_any _ HL2.out).mono ?_
    rintro e3 w3 ⟨rfl, hb3⟩
    go_wp2
    go_ret
    exact ⟨rfl, HB2.out.trans (hb3.mono HB2.out.size)⟩
/-! ### The row -/
set_option maxRecDepth 100000 in
theorem again_lifted (os : Os) (started : os.Started) (H : Type) (enc : TypeId × Value → H) :
    ReturnsInHanded {} Tryd.checked os 7 .any (fun w args => (Rows.varintAgainSpec.pre enc Tryd.prog Tryd.f7 [] false w args ∧ laidMetH Tryd.prog laid1 w) ∧ sizedMet enc Tryd.prog Tryd.f7 (OpenSpec.ofChange Rows.varintAgainSpec) false w args)
      (Rows.varintAgainSpec.post enc Tryd.prog Tryd.f7 false true false false) := by
  refine returnsInHanded_of_change_and (C := Tryd.checked) (X := fun w _ => laidMetH Tryd.prog laid1 w) (fun _ _ _ hh h => h.of_heap hh) own started (by kernel_rfl) Tryd.func7
    (ChangeSpec.witness_shaped (enc := enc) (C := Tryd.checked) (os := os) (X := fun w _ => laidMetH Tryd.prog laid1 w) false (World.doorLaid Tryd.prog 400 os) #[.int .i64 0, .slice none 0 0] 8 rfl (World.shaped_of_RefB (by kernel_rfl) (by kernel_rfl)) (by kernel_rfl) (by kernel_rfl) (by kernel_rfl) (door_met os _)) ?_
  intro W base args ds gs before hval0 hW _ _ hL _
  have hval : ∀ (j : Nat) t v, Tryd.f7.params[j]? = some t → args[j]? = some v → Value.okWide Tryd.prog W .any base t v := hval0
  have hW' := hW
  obtain ⟨p, q, hA0, hV, rfl, hfz, hnd⟩ := hW
  have hA : DataW.TrodAll enc Tryd.prog W 0 (fun _ => true) true Tryd.f7.params.toList args.toList ds p := hA0
  rw [Tryd.params7] at hA hval
  obtain ⟨v0, vs0, d0, ds0, p0, q0, hargs, rfl, rfl, h0, r0⟩ := trodAll_cons hA
  obtain ⟨v1, vs1, d1, ds1, p1, q1, rfl, rfl, rfl, h1, r1⟩ := trodAll_cons r0
  obtain ⟨rfl, rfl, rfl⟩ := trodAll_nil r1
  obtain rfl : args = #[v0, v1] := by cases args; simp_all
  obtain ⟨rfl, rfl⟩ := trodVars_none hV
  obtain ⟨a0, rfl, rfl, rfl, w0⟩ := open_int Tryd.underlying3 (hval 0 3 v0 rfl rfl) h0
  have bd0 := bounds_i64 w0
  obtain ⟨a1, len1, cap1, rfl⟩ := okWide_slice Tryd.underlying22 (hval 1 22 v1 rfl rfl)
  have k1 := h1
  have lt1 : ∀ x ∈ p1, x.block < W.heap.size := by obtain ⟨m, hm⟩ := k1; exact DataW.trod_lt m _ _ _ hm
  obtain ⟨z1, w1⟩ : ∃ zs, IsRow W a1 len1 cap1 zs := by
    obtain ⟨fuel, hf⟩ := h1
    rcases open_ints Tryd.underlying22 Tryd.underlying5 (by kernel_rfl) hf with ⟨hcs, _⟩ | ⟨x, l, c, zs, hcs, _, hl, hm, hz, _, hcell, hwz⟩
    · simp [Value.cells] at hcs
      obtain ⟨rfl, rfl, rfl⟩ := hcs
      exact ⟨[], .inl ⟨rfl, rfl, rfl, rfl⟩⟩
    · simp [Value.cells] at hcs
      obtain ⟨rfl, rfl, rfl⟩ := hcs
      exact ⟨zs, .inr ⟨_, rfl, hl, hm, by simpa using hz, hcell, hwz⟩⟩
  obtain ⟨e11, e12, e13, e14, e15⟩ := w1.lies
  clear hA0 hval0
  simp only [List.append_nil, List.nil_append] at hW'
  refine (again_walk a0 a1 len1 cap1 (z1.take len1) W e11 e12 e13 e14 e15 (of_laid hL)).mono fun e W' ⟨he, bel⟩ => ?_
  subst he
  exact ⟨_, rfl, _, _, _, [], _, [], hW', trodAll_mk1 (shut_bool Tryd.underlying4 _), (trodAll_cons_mk (shut_int Tryd.underlying3 w0) (trodAll_cons_mk (Below.trod laidOut (by kernel_rfl) (of_decide_eq_true (by kernel_rfl)) k1 bel lt1) trodAll_mk0)), rfl, bel.frame _, fun h => by cases h⟩

theorem again_holds : Rows.VarintAgainSaid :=
  OpenClaim.holds_of_wide 7 Tryd.f7 rfl rfl rfl rfl rfl rfl rfl ⟨rfl, rfl, rfl, rfl, rfl⟩ rfl rfl rfl rfl rfl (by kernel_rfl) Tryd.func7 (by kernel_rfl)
    (of_decide_eq_true (by kernel_rfl)) (by unfold Func.isWrapper; first | (rw [if_pos (by decide +kernel)]; kernel_rfl) | (rw [if_neg (by decide +kernel)]; exact ⟨rfl, rfl⟩))
    (fun os started H enc _ => again_lifted os started H enc)

theorem varintAgain_card : Rows.VarintAgainCardSaid :=
  Claim7.holds_tied_plain_at .later [] [.data] true (true, "6827b3b49ff6a28c02ae14668346ec4938934fd8076c44a8f347ad44f629ef54") false
    again_holds (fun _ h => by cases h) (by kernel_rfl) (fun _ h => by cases h) varintAgain_row_tie rfl ⟨rfl, rfl⟩ (by kernel_rfl) rfl
    (fun f fn hf hfn => by
      obtain rfl : f = 7 := Option.some.inj ((show Tryd.prog.funcNamed "mailcoach/mailcoachlaw01.VarintAgain" = some 7 by kernel_rfl).symm.trans hf) |>.symm
      obtain rfl : fn = Tryd.f7 := (Option.some.inj (Tryd.func7.symm.trans hfn)).symm
      exact ⟨by kernel_rfl, fun j t ht => by
        rw [Tryd.params7] at ht
        have hm : t ∈ [3, 22] := by simpa using Array.mem_of_getElem? ht
        have hall : ([3, 22].all fun u => !Tryd.prog.wantsStandIn u) = true := by kernel_rfl
        exact (show Tryd.prog.wantsStandIn t = false by simpa using List.all_eq_true.1 hall t hm)⟩)
    (by kernel_rfl)
#print axioms varintAgain_card
end Go.Proofs.YtmgmejbjekojnaaDoor
