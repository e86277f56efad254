/-
  VarintBack: a number that was put is got again, whatever stands behind it, from as few bytes as can be; of fewer bytes, none.
  For every number and every slice of bytes behind it, where varint.lengths holds what its own initialiser lays (the card ties it).
-/
import Derived.Test.YtmgmejbjekojnaaDoorAlive
import Derived.Test.YtmgmejbjekojnaaDoorTail
import Derived.Test.YtmgmejbjekojnaaDoorPutMath
import Derived.Test.YtmgmejbjekojnaaDoorLift
namespace Go.Proofs.YtmgmejbjekojnaaDoor
open Go.ChangeShapes Go.WideShapes Go.ChangeAt Go.RowKit

/-- As few bytes as can be. -/
theorem putL_least (n : Int) (h0 : 0 ≤ n) (h1 : n < 4611686018427387904) : (n < 64 ∧ (putL n).length = 1) ∨ (64 ≤ n ∧ n < 16384 ∧ (putL n).length = 2) ∨ (16384 ≤ n ∧ n < 1073741824 ∧ (putL n).length = 4) ∨ (1073741824 ≤ n ∧ (putL n).length = 8) := by
  rcases putL_cases n h0 h1 with ⟨a, e⟩ | ⟨a, a2, e⟩ | ⟨a, a2, e⟩ | ⟨a, e⟩
  all_goals rw [e]
  · exact .inl ⟨a, rfl⟩
  · exact .inr (.inl ⟨a, a2, rfl⟩)
  · exact .inr (.inr (.inl ⟨a, a2, rfl⟩))
  · exact .inr (.inr (.inr ⟨a, rfl⟩))

theorem getV_of {zs : List Int} {x : Int} {k : Nat} {e : Int} (h : getR zs = (x, k, e)) : getV zs = .tuple #[.int .u64 x, .int .i64 k, .int .i64 e] := by unfold getV; rw [h]

set_option maxHeartbeats 4000000 in
theorem back_walk (n : Int) (a : Option Addr) (len cap : Nat) (zs : List Int) (w : World) (hn0 : 0 ≤ n) (hz : zs.length = len) (hm : len ≤ 9223372036854775807) (hnil : a = none → len = 0 ∧ cap = 0) (hLies : Lies w a zs) (hb : ∀ j : Nat, 0 ≤ zs[j]?.getD 0 ∧ zs[j]?.getD 0 ≤ 255) (hL : Lens w) :
    Calls Tryd.prog 4 #[.int .u64 n, .slice a len cap] w fun e w' => e = .returned (.bool true) ∧ Below w.heap.size w w' := by
  obtain ⟨i0, hi, hz0, hz1, hz2⟩ := info_parts Tryd.infoByte
  have HL : Hid (Lens w) := hL
  have HZ : Hid (zs.length = len) := hz
  have HS : Hid (Lies w a zs) := hLies
  clear hL hz hLies
  go_enter Tryd.func4, Tryd.ntmps4
  go_wp2_with fail
  refine (alive_any w HL.out).mono ?_
  rintro e1 w1 ⟨rfl, hb1⟩
  have hb2 := below_new w1 (.cells #[.int .i64 (len : Int)] 3)
  have HB2 : Hid (Below w.heap.size w (w1.alloc (.cells #[.int .i64 (len : Int)] 3))) := hb1.trans (hb2.mono hb1.size)
  have HL2 : Hid (Lens (w1.alloc (.cells #[.int .i64 (len : Int)] 3))) := HL.out.step HB2.out
  have HS2 : Hid (Lies (w1.alloc (.cells #[.int .i64 (len : Int)] 3)) a zs) := HS.out.belowL HB2.out
  clear hb1 hb2 HS
  go_wp2_with fail
  by_cases hl : len ≤ 1048576
  · refine (beyond_no _ _ (len : Int) _ (by omega) (by omega) (by simp)).mono ?_
    rintro e2 w2 ⟨rfl, hw2⟩
    obtain rfl := hw2.symm
    generalize hW : w1.alloc (.cells #[.int .i64 (len : Int)] 3) = w3 at *
    clear hW
    go_wp2_with fail
    by_cases hn : n < 4611686018427387904
    · refine (put_own n w3 hn0 hn HL2.out).mono ?_
      rintro e4 w4 ⟨g, rfl, hown, hb4⟩
      have hp := putL_len n
      have HLS := putL_least n hn0 hn
      have HR1 := getV_of (getR_less n hn0 hn)
      have HR2 := getV_of (getR_put n zs hn0 hn)
      have hbp := bytes_lit _ (putL_bytes n hn0 hn)
      have HB4 : Hid (Below w.heap.size w w4) := HB2.out.trans (hb4.mono HB2.out.size)
      have HL4 : Hid (Lens w4) := HL2.out.step hb4
      have HS4 : Hid (Lies w4 a zs) := HS2.out.belowL hb4
      have hsz4 : w.heap.size ≤ w4.heap.size := HB4.out.size
      have HO4 : Hid (w4.ownsRow w3.heap.size 5 1 (.slice (some ⟨g, 0, none⟩) (putL n).length (putL n).length) (putL n).length ((putL n).map (Value.int .u8))) := hown.2
      have hsz3 : w3.heap.size ≤ w4.heap.size := hb4.size
      have hw3 : w.heap.size ≤ w3.heap.size := HB2.out.size
      have HP4 : Hid (Lies w4 (some ⟨g, 0, none⟩) (putL n)) := hown.lies
      clear hown hb4 HB2 HL2 HS2
      generalize hpn : putL n = pn at *
      have HPN : Hid (putL n = pn) := hpn
      clear hpn
      obtain ⟨L, hL⟩ : ∃ L, pn.length = L := ⟨_, rfl⟩
      have HLen : Hid (pn.length = L) := hL
      rw [hL] at hp HLS HR1 HR2 HO4 ⊢
      clear hL
      have HG1 : Hid (getV (pn.take (L - 1)) = .tuple #[.int .u64 0, .int .i64 0, .int .i64 4]) := HR1
      have HG2 : Hid (getV (pn ++ zs) = .tuple #[.int .u64 n, .int .i64 L, .int .i64 0]) := HR2
      clear HR1 HR2 hw2
      go_wp2_with fail
      refine (get_any _ (L - 1) L (pn.take (L - 1)) w4 (by rw [List.length_take, HLen.out]; omega) (by omega) (by omega) (HP4.out.take _) (bytes_take _ hbp) HL4.out).mono ?_
      rintro e5 w5 ⟨rfl, hw5⟩
      obtain rfl := hw5.symm
      rw [HG1.out]
      have HBy : Hid (∀ j : Nat, 0 ≤ (pn ++ zs)[j]?.getD 0 ∧ (pn ++ zs)[j]?.getD 0 ≤ 255) := bytes_append hbp hb
      clear hbp hb HG1
      cases a with
      | none =>
        obtain ⟨rfl, rfl⟩ := hnil rfl
        have hz2' : zs = [] := List.eq_nil_of_length_eq_zero HZ.out
        subst hz2'
        have HBF : Hid (Below w.heap.size w w4) := HB4.out
        go_wp2_with (at_builtin; refine wpList_append_own_none rfl _ _ 22 rfl w3.heap.size 5 i0 1 Tryd.underlying22 hi _ L _ rfl HO4.out rfl ?_)
        refine (get_any _ L L (pn ++ []) w4 (by rw [List.append_nil]; exact HLen.out) (by omega) (by omega) (by rw [List.append_nil]; exact HP4.out) HBy.out HL4.out).mono ?_
        rintro e6 w6 ⟨rfl, hw6⟩
        obtain rfl := hw6.symm
        rw [HG2.out]
        clear HG2 HBy HO4 HP4 hnil
        rcases HLS with ⟨q1, rfl⟩ | ⟨q1, q2, rfl⟩ | ⟨q1, q2, rfl⟩ | ⟨q1, rfl⟩
        all_goals
          go_wp2
          go_ret
          exact ⟨rfl, HBF.out⟩
      | some ad =>
        go_wp2_with (at_builtin; refine wpList_append_own _ rfl _ _ 22 rfl w3.heap.size 5 i0 (.int .u8 0) 1 1 Tryd.underlying22 hi hz0 hz1 hz2 rfl (by decide) _ L _ rfl HO4.out ad len cap (zs.map (Value.int .u8)) rfl (by rw [List.length_map, HZ.out, Nat.mul_one]) HS4.out.news (one_cells zs) (by unfold maxLen; omega) (by omega) hsz3 ?_; intro v' w5 hown' hgrow _; obtain ⟨g', cap', rfl, hcap', how'⟩ := own_more (by rw [HLen.out, HZ.out]) (by omega) hown')
        have HBF : Hid (Below w.heap.size w w5) := HB4.out.grown hgrow hsz4 (fun k e => by obtain ⟨h1, h2⟩ := HO4.out.lt k e; omega)
        have HLF : Hid (Lens w5) := HL.out.step HBF.out
        refine (get_any _ (L + len) cap' (pn ++ zs) w5 how'.1 (by omega) hcap' how'.lies HBy.out HLF.out).mono ?_
        rintro e6 w6 ⟨rfl, hw6⟩
        obtain rfl := hw6.symm
        rw [HG2.out]
        clear HG2 HBy HO4 HP4 hnil how' hown' hgrow
        rcases HLS with ⟨q1, rfl⟩ | ⟨q1, q2, rfl⟩ | ⟨q1, q2, rfl⟩ | ⟨q1, rfl⟩
        all_goals
          go_wp2
          go_ret
          exact ⟨rfl, HBF.out⟩
    · refine (put_no n w3 (by omega)).mono ?_
      rintro e4 w4 ⟨rfl, hw4⟩
      obtain rfl := hw4.symm
      go_wp2
      go_ret
      exact ⟨ret_bool (by simp), HB2.out⟩
  · refine (beyond_yes _ _ (len : Int) _ (by omega) (by omega) (by simp)).mono ?_
    rintro e2 w2 ⟨rfl, hw2⟩
    obtain rfl := hw2.symm
    go_wp2_with fail
    refine (alive_any _ HL2.out).mono ?_
    rintro e3 w3 ⟨rfl, hb3⟩
    go_wp2
    go_ret
    exact ⟨rfl, HB2.out.trans (hb3.mono HB2.out.size)⟩
/-! ### The row -/
set_option maxRecDepth 100000 in
theorem back_lifted (os : Os) (started : os.Started) (H : Type) (enc : TypeId × Value → H) :
    ReturnsInHanded {} Tryd.checked os 4 .any (fun w args => (Rows.varintBackSpec.pre enc Tryd.prog Tryd.f4 [] false w args ∧ laidMetH Tryd.prog laid1 w) ∧ sizedMet enc Tryd.prog Tryd.f4 (OpenSpec.ofChange Rows.varintBackSpec) false w args)
      (Rows.varintBackSpec.post enc Tryd.prog Tryd.f4 false true false false) := by
  refine returnsInHanded_of_change_and (C := Tryd.checked) (X := fun w _ => laidMetH Tryd.prog laid1 w) (fun _ _ _ hh h => h.of_heap hh) own started (by kernel_rfl) Tryd.func4
    (ChangeSpec.witness_shaped (enc := enc) (C := Tryd.checked) (os := os) (X := fun w _ => laidMetH Tryd.prog laid1 w) false (World.doorLaid Tryd.prog 400 os) #[.int .u64 0, .slice none 0 0] 8 rfl (World.shaped_of_RefB (by kernel_rfl) (by kernel_rfl)) (by kernel_rfl) (by kernel_rfl) (by kernel_rfl) (door_met os _)) ?_
  intro W base args ds gs before hval0 hW _ _ hL _
  have hval : ∀ (j : Nat) t v, Tryd.f4.params[j]? = some t → args[j]? = some v → Value.okWide Tryd.prog W .any base t v := hval0
  have hW' := hW
  obtain ⟨p, q, hA0, hV, rfl, hfz, hnd⟩ := hW
  have hA : DataW.TrodAll enc Tryd.prog W 0 (fun _ => true) true Tryd.f4.params.toList args.toList ds p := hA0
  rw [Tryd.params4] at hA hval
  obtain ⟨v0, vs0, d0, ds0, p0, q0, hargs, rfl, rfl, h0, r0⟩ := trodAll_cons hA
  obtain ⟨v1, vs1, d1, ds1, p1, q1, rfl, rfl, rfl, h1, r1⟩ := trodAll_cons r0
  obtain ⟨rfl, rfl, rfl⟩ := trodAll_nil r1
  obtain rfl : args = #[v0, v1] := by cases args; simp_all
  obtain ⟨rfl, rfl⟩ := trodVars_none hV
  obtain ⟨a0, rfl, rfl, rfl, w0⟩ := open_int Tryd.underlying25 (hval 0 25 v0 rfl rfl) h0
  have bd0 := bounds_u64 w0
  obtain ⟨a1, len1, cap1, rfl⟩ := okWide_slice Tryd.underlying22 (hval 1 22 v1 rfl rfl)
  have k1 := h1
  have lt1 : ∀ x ∈ p1, x.block < W.heap.size := by obtain ⟨m, hm⟩ := k1; exact DataW.trod_lt m _ _ _ hm
  obtain ⟨z1, w1⟩ : ∃ zs, IsRow W a1 len1 cap1 zs := by
    obtain ⟨fuel, hf⟩ := h1
    rcases open_ints Tryd.underlying22 Tryd.underlying5 (by kernel_rfl) hf with ⟨hcs, _⟩ | ⟨x, l, c, zs, hcs, _, hl, hm, hz, _, hcell, hwz⟩
    · simp [Value.cells] at hcs
      obtain ⟨rfl, rfl, rfl⟩ := hcs
      exact ⟨[], .inl ⟨rfl, rfl, rfl, rfl⟩⟩
    · simp [Value.cells] at hcs
      obtain ⟨rfl, rfl, rfl⟩ := hcs
      exact ⟨zs, .inr ⟨_, rfl, hl, hm, by simpa using hz, hcell, hwz⟩⟩
  obtain ⟨e11, e12, e13, e14, e15⟩ := w1.lies
  clear hA0 hval0
  try simp only [List.append_nil, List.nil_append] at hW'
  refine (back_walk a0 a1 len1 cap1 (z1.take len1) W bd0.1 e11 e12 w1.nil e14 e15 (of_laid hL)).mono fun e W' ⟨he, bel⟩ => ?_
  subst he
  exact ⟨_, rfl, _, _, _, [], _, [], hW', trodAll_mk1 (shut_bool Tryd.underlying4 _), (trodAll_cons_mk (shut_int Tryd.underlying25 w0) (trodAll_cons_mk (Below.trod laidOut (by kernel_rfl) (of_decide_eq_true (by kernel_rfl)) k1 bel lt1) trodAll_mk0)), rfl, bel.frame _, fun h => by cases h⟩

theorem back_holds : Rows.VarintBackSaid :=
  OpenClaim.holds_of_wide 4 Tryd.f4 rfl rfl rfl rfl rfl rfl rfl ⟨rfl, rfl, rfl, rfl, rfl⟩ rfl rfl rfl rfl rfl (by kernel_rfl) Tryd.func4 (by kernel_rfl)
    (of_decide_eq_true (by kernel_rfl)) (by unfold Func.isWrapper; first | (rw [if_pos (by decide +kernel)]; kernel_rfl) | (rw [if_neg (by decide +kernel)]; exact ⟨rfl, rfl⟩))
    (fun os started H enc _ => back_lifted os started H enc)

theorem varintBack_card : Rows.VarintBackCardSaid :=
  Claim7.holds_tied_plain_at .later [] [.data] true (true, "6827b3b49ff6a28c02ae14668346ec4938934fd8076c44a8f347ad44f629ef54") false
    back_holds (fun _ h => by cases h) (by kernel_rfl) (fun _ h => by cases h) varintBack_row_tie rfl ⟨rfl, rfl⟩ (by kernel_rfl) rfl
    (fun f fn hf hfn => by
      obtain rfl : f = 4 := Option.some.inj ((show Tryd.prog.funcNamed "mailcoach/mailcoachlaw01.VarintBack" = some 4 by kernel_rfl).symm.trans hf) |>.symm
      obtain rfl : fn = Tryd.f4 := (Option.some.inj (Tryd.func4.symm.trans hfn)).symm
      exact ⟨by kernel_rfl, fun j t ht => by
        rw [Tryd.params4] at ht
        have hm : t ∈ [25, 22] := by simpa using Array.mem_of_getElem? ht
        have hall : ([25, 22].all fun u => !Tryd.prog.wantsStandIn u) = true := by kernel_rfl
        exact (show Tryd.prog.wantsStandIn t = false by simpa using List.all_eq_true.1 hall t hm)⟩)
    (by kernel_rfl)
#print axioms varintBack_card
end Go.Proofs.YtmgmejbjekojnaaDoor
