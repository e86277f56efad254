/-
  VarintPrefixBack: a number that was put into what is left of a byte is got again, with what stands above it, whatever stands behind; of fewer bytes, none.
  For every byte, every number of bits, every number, every slice of bytes behind it, where varint.lengths holds what its own initialiser lays (the card ties it).
-/
import Derived.Test.YtmgmejbjekojnaaDoorAlive
import Derived.Test.YtmgmejbjekojnaaDoorTail
import Derived.Test.YtmgmejbjekojnaaDoorPrefMath
import Derived.Test.YtmgmejbjekojnaaDoorLift
import Derived.Lib.SmallJoins
import Derived.Deep.RegionHeld3
namespace Go.Proofs.YtmgmejbjekojnaaDoor
open Go.ChangeShapes Go.WideShapes Go.ChangeAt Go.RowKit

/-- It may be put, or it is refused. -/
theorem putp_cases (first b n : Int) (f0 : 0 ≤ first) (f1 : first ≤ 255) (n0 : 0 ≤ n) : (∃ M, MayPut first b M n) ∨
    ∀ w, Calls Tryd.prog 16 #[.int .u8 first, .int .i64 b, .int .u64 n] w fun e w' => e = .returned (.tuple #[.slice none 0 0, .int .i64 1]) ∧ w' = w := by
  by_cases hb : 1 ≤ b ∧ b ≤ 8
  · by_cases hn : n ≤ 4611686018427387903
    · obtain ⟨M, hM⟩ := IsMask.of b hb.1 hb.2
      by_cases hf : first % (M + 1) = 0
      · exact .inl ⟨M, hM, f0, f1, hf, n0, hn⟩
      · exact .inr fun w => putp_first first b M n w hM f0 f1 hn hf
    · exact .inr fun w => putp_large first b n w hb.1 hb.2 (by omega)
  · exact .inr fun w => putp_bits first b n w (by omega)

theorem getPV_of {M : Int} {zs : List Int} {a x k e : Int} (h : getP M zs = (a, x, k, e)) : getPV M zs = .tuple #[.int .u8 a, .int .u64 x, .int .i64 k, .int .i64 e] := by unfold getPV; rw [h]

set_option maxHeartbeats 4000000 in
theorem prefixBack_walk (first b n : Int) (a : Option Addr) (len cap : Nat) (zs : List Int) (w : World) (f0 : 0 ≤ first) (f1 : first ≤ 255) (hn0 : 0 ≤ n) (hz : zs.length = len) (hm : len ≤ 9223372036854775807) (hnil : a = none → len = 0 ∧ cap = 0) (hLies : Lies w a zs) (hb : ∀ j : Nat, 0 ≤ zs[j]?.getD 0 ∧ zs[j]?.getD 0 ≤ 255) (hL : Lens w) :
    Calls Tryd.prog 6 #[.agg #[.int .u8 first, .int .i64 b], .int .u64 n, .slice a len cap] w fun e w' => e = .returned (.bool true) ∧ Below w.heap.size w w' := by
  obtain ⟨i0, hi, hz0, hz1, hz2⟩ := info_parts Tryd.infoByte
  have HZ : Hid (zs.length = len) := hz
  have hb0 := below_new w (.cells #[.int .u8 first, .int .i64 b] 37)
  have HL0 : Hid (Lens (w.alloc (.cells #[.int .u8 first, .int .i64 b] 37))) := hL.step hb0
  have HS0 : Hid (Lies (w.alloc (.cells #[.int .u8 first, .int .i64 b] 37)) a zs) := hLies.belowL hb0
  have HL : Hid (Lens w) := hL
  clear hL hz hLies
  go_enter Tryd.func6, Tryd.ntmps6
  go_wp2_with fail
  refine (alive_any _ HL0.out).mono ?_
  rintro e1 w1 ⟨rfl, hb1⟩
  have hcf : w1.cell? ⟨w.heap.size, 0, none⟩ = some (.int .u8 first) := (hb1.cell (p := ⟨w.heap.size, 0, none⟩) (by simp)).trans (by simp)
  have hcb : w1.cell? ⟨w.heap.size, 1, none⟩ = some (.int .i64 b) := (hb1.cell (p := ⟨w.heap.size, 1, none⟩) (by simp)).trans (by simp)
  have hsz1 : w.heap.size < w1.heap.size := by have := hb1.size; simp at this; omega
  have hb2 := below_new w1 (.cells #[.int .i64 (len : Int)] 3)
  have HB1 : Hid (Below w.heap.size w w1) := hb0.trans (hb1.mono hb0.size)
  have HB2 : Hid (Below w.heap.size w (w1.alloc (.cells #[.int .i64 (len : Int)] 3))) := HB1.out.trans (hb2.mono HB1.out.size)
  have HL2 : Hid (Lens (w1.alloc (.cells #[.int .i64 (len : Int)] 3))) := (HL0.out.step hb1).step hb2
  have HS2 : Hid (Lies (w1.alloc (.cells #[.int .i64 (len : Int)] 3)) a zs) := (HS0.out.belowL hb1).belowL hb2
  have hcf2 : (w1.alloc (.cells #[.int .i64 (len : Int)] 3)).cell? ⟨w.heap.size, 0, none⟩ = some (.int .u8 first) := (hb2.cell (p := ⟨w.heap.size, 0, none⟩) hsz1).trans hcf
  have hcb2 : (w1.alloc (.cells #[.int .i64 (len : Int)] 3)).cell? ⟨w.heap.size, 1, none⟩ = some (.int .i64 b) := (hb2.cell (p := ⟨w.heap.size, 1, none⟩) hsz1).trans hcb
  have hsz2 : w.heap.size < (w1.alloc (.cells #[.int .i64 (len : Int)] 3)).heap.size := Nat.lt_of_lt_of_le hsz1 hb2.size
  clear hb0 hb1 hb2 HS0 HL0 hcf hcb hsz1
  go_wp2_with fail
  by_cases hl : len ≤ 1048576
  · refine (beyond_no _ _ (len : Int) _ (by omega) (by omega) (by simp)).mono ?_
    rintro e2 w2 ⟨rfl, hw2⟩
    obtain rfl := hw2.symm
    generalize hW : w1.alloc (.cells #[.int .i64 (len : Int)] 3) = w3 at *
    clear hW hw2
    go_wp2_with fail
    rcases putp_cases first b n f0 f1 hn0 with ⟨M, hM⟩ | hbad
    · refine (putp_own first b M n w3 hM.mask f0 f1 hn0 hM.n1 hM.fm).mono ?_
      rintro e4 w4 ⟨g, pc, rfl, hown, hb4⟩
      have hp := putP_len first M n
      have HR1 := getPV_of (getP_less hM)
      have HR2 := getPV_of (getP_put hM zs)
      have hbp := bytes_lit _ (putP_bytes hM)
      have HMM : Hid (IsMask b M) := hM.mask
      have HB4 : Hid (Below w.heap.size w w4) := HB2.out.trans (hb4.mono HB2.out.size)
      have HS4 : Hid (Lies w4 a zs) := HS2.out.belowL hb4
      have HO4 : Hid (Owns w3.heap.size w4 g (putP first M n).length pc (putP first M n)) := hown
      have hpc : (putP first M n).length ≤ pc := hown.cap
      have hsz4 : w3.heap.size ≤ w4.heap.size := hb4.size
      have hcf4 : w4.cell? ⟨w.heap.size, 0, none⟩ = some (.int .u8 first) := (hb4.cell (p := ⟨w.heap.size, 0, none⟩) hsz2).trans hcf2
      have hcb4 : w4.cell? ⟨w.heap.size, 1, none⟩ = some (.int .i64 b) := (hb4.cell (p := ⟨w.heap.size, 1, none⟩) hsz2).trans hcb2
      clear hown hb4 HB2 HL2 HS2 hcf2 hcb2 hM
      generalize putP first M n = pn at *
      obtain ⟨L, hL⟩ : ∃ L, pn.length = L := ⟨_, rfl⟩
      have HLen : Hid (pn.length = L) := hL
      rw [hL] at hp HR1 HR2 HO4 hpc ⊢
      clear hL
      have HG1 : Hid (getPV M (pn.take (L - 1)) = .tuple #[.int .u8 0, .int .u64 0, .int .i64 0, .int .i64 4]) := HR1
      have HG2 : Hid (getPV M (pn ++ zs) = .tuple #[.int .u8 first, .int .u64 n, .int .i64 L, .int .i64 0]) := HR2
      clear HR1 HR2
      have HC1 : ∀ wx, Below w4.heap.size w4 wx → Calls Tryd.prog 17 #[.int .i64 b, .slice (some ⟨g, 0, none⟩) (L - 1) pc] wx fun e w' => e = .returned (.tuple #[.int .u8 0, .int .u64 0, .int .i64 0, .int .i64 4]) ∧ Below wx.heap.size wx w' := by
        intro wx hwx
        rw [← HG1.out]
        exact getp_any _ (L - 1) pc (pn.take (L - 1)) b M wx HMM.out (by rw [List.length_take, HLen.out]; omega) (by omega) (by omega) ((HO4.out.lies.belowL hwx).take _) (bytes_take _ hbp)
      have HC : Hid (∀ wx, Below w4.heap.size w4 wx → Calls Tryd.prog 17 #[.int .i64 b, .slice (some ⟨g, 0, none⟩) (L - 1) pc] wx fun e w' => e = .returned (.tuple #[.int .u8 0, .int .u64 0, .int .i64 0, .int .i64 4]) ∧ Below wx.heap.size wx w') := HC1
      clear HC1
      have t1 : IntKind.i64.wrap ((L : Int) - 1) = (L : Int) - 1 := by rw [IntKind.wrap_i64]; omega
      have t2 : ((L : Int) - 1).toNat = L - 1 := by omega
      have t3 : ¬ ((L : Int) - 1 < 0) := by omega
      have t4 : (0 : Int) ≤ (L : Int) - 1 := by omega
      have t5 : (L : Int) - 1 ≤ (pc : Int) := by omega
      have t6 : ¬ ((pc : Int) < (L : Int) - 1) := by omega
      have t7 : L - 1 ≤ pc := by omega
      have t8 : (1 : Int) ≤ (L : Int) := by omega
      have t9 : (L : Int) ≤ (pc : Int) + 1 := by omega
      have t10 : ¬ pc < L - 1 := by omega
      have t11 : 1 ≤ L := by omega
      have t12 : L ≤ pc + 1 := by omega
      have HNil : Hid (a = none → len = 0 ∧ cap = 0) := hnil
      have HBy : Hid (∀ j : Nat, 0 ≤ (pn ++ zs)[j]?.getD 0 ∧ (pn ++ zs)[j]?.getD 0 ≤ 255) := bytes_append hbp hb
      clear hbp hb hnil
      go_wp2
      go_region_held3 (fun w' => w'.cell? ⟨w.heap.size, 1, none⟩ = some (.int .i64 b)) (first | go_keep | exact (hb5.cell (p := ⟨w.heap.size, 1, none⟩) (by simp; omega)).trans (by assumption)) (first | (go_at_call 17; refine (HC.out _ ?_).mono ?_; exact (Below.refl _ _).drew; rintro e5 w5 ⟨rfl, hb5⟩))
      have hb45 : Below w4.heap.size w4 w5 := ((Below.refl _ w4).drew).trans hb5
      have HB5 : Hid (Below w.heap.size w w5) := HB4.out.trans (hb45.mono HB4.out.size)
      have HO5 : Hid (Owns w3.heap.size w5 g L pc pn) := HO4.out.step hb45
      have HS5 : Hid (Lies w5 a zs) := HS4.out.belowL hb45
      have hcf5 : w5.cell? ⟨w.heap.size, 0, none⟩ = some (.int .u8 first) := (hb45.cell (p := ⟨w.heap.size, 0, none⟩) (by show w.heap.size < w4.heap.size; omega)).trans hcf4
      have hcb5 : w5.cell? ⟨w.heap.size, 1, none⟩ = some (.int .i64 b) := (hb45.cell (p := ⟨w.heap.size, 1, none⟩) (by show w.heap.size < w4.heap.size; omega)).trans hcb4
      have hsz5 : w3.heap.size ≤ w5.heap.size := Nat.le_trans hsz4 hb45.size
      have hgl : w3.heap.size ≤ g := (HO4.out.2.lt g rfl).1
      have hbL : L + len ≤ 140737488355328 := by omega
      have hng : some w.heap.size ≠ some g := by
        intro e
        have e2 : w.heap.size = g := by simpa using e
        omega
      clear hb5 hb45 HC HO4 HS4 HB4 hcf4 hcb4 t1 t2 t3 t4 t5 t6 t7 t8 t9 t10 t11 t12 HG1
      go_wp2
      go_region_held3 (fun w' => w'.cell? ⟨w.heap.size, 1, none⟩ = some (.int .i64 b)) (first | assumption | go_keep)
        (first | ((refine step_append_bytes (by rfl) _ _ (by rfl) w3.heap.size g L pc pn (by rfl) (by exact HO5.out) (by omega) a len cap zs (by rfl) HNil.out (by exact HS5.out) HZ.out hbL (by exact hsz5) ?_; intro g6 c6 w6 ho6 hgr; have hk6 : w6.cell? ⟨w.heap.size, 1, none⟩ = some (.int .i64 b) := hgr.cell (a := ⟨w.heap.size, 1, none⟩) hcb5 hng; have hs6 : w5.heap.size ≤ w6.heap.size := hgr.size)) | (go_at_call 17; refine (getp_any _ (L + len) c6 (pn ++ zs) b M _ HMM.out ho6.1 (by omega) ho6.cap ho6.lies HBy.out).mono ?_; rintro e7 w7 ⟨rfl, hb7⟩; rw [HG2.out]; have hk7 : w7.cell? ⟨w.heap.size, 1, none⟩ = some (.int .i64 b) := (hb7.cell (p := ⟨w.heap.size, 1, none⟩) (by show w.heap.size < w6.heap.size; omega)).trans hk6))
      have hcf6 : w6.cell? ⟨w.heap.size, 0, none⟩ = some (.int .u8 first) := hgr.cell (a := ⟨w.heap.size, 0, none⟩) hcf5 hng
      have hcf7 : w7.cell? ⟨w.heap.size, 0, none⟩ = some (.int .u8 first) := (hb7.cell (p := ⟨w.heap.size, 0, none⟩) (by show w.heap.size < w6.heap.size; omega)).trans hcf6
      have HB6 : Hid (Below w.heap.size w w6) := (HB5.out.drew).grown hgr (by show w.heap.size ≤ w5.heap.size; omega) (fun k e => by cases e; omega)
      have HB7 : Hid (Below w.heap.size w w7) := HB6.out.trans (hb7.mono HB6.out.size)
      clear hgr ho6 hb7 hk6 hk7 hcf6 HO5 HS5 HB5 HB6 HBy HNil HMM hcb5 hcf5 HG2
      go_wp2
      go_ret
      exact ⟨rfl, HB7.out⟩
    · refine (hbad w3).mono ?_
      rintro e4 w4 ⟨rfl, hw4⟩
      obtain rfl := hw4.symm
      go_wp2
      go_ret
      exact ⟨rfl, HB2.out⟩
  · refine (beyond_yes _ _ (len : Int) _ (by omega) (by omega) (by simp)).mono ?_
    rintro e2 w2 ⟨rfl, hw2⟩
    obtain rfl := hw2.symm
    go_wp2_with fail
    refine (alive_any _ HL2.out).mono ?_
    rintro e3 w3 ⟨rfl, hb3⟩
    go_wp2
    go_ret
    exact ⟨rfl, HB2.out.trans (hb3.mono HB2.out.size)⟩
/-! ### The row -/
set_option maxRecDepth 100000 in
theorem prefixBack_lifted (os : Os) (started : os.Started) (H : Type) (enc : TypeId × Value → H) :
    ReturnsInHanded {} Tryd.checked os 6 .any (fun w args => (Rows.varintPrefixBackSpec.pre enc Tryd.prog Tryd.f6 [] false w args ∧ laidMetH Tryd.prog laid1 w) ∧ sizedMet enc Tryd.prog Tryd.f6 (OpenSpec.ofChange Rows.varintPrefixBackSpec) false w args)
      (Rows.varintPrefixBackSpec.post enc Tryd.prog Tryd.f6 false true false false) := by
  refine returnsInHanded_of_change_and (C := Tryd.checked) (X := fun w _ => laidMetH Tryd.prog laid1 w) (fun _ _ _ hh h => h.of_heap hh) own started (by kernel_rfl) Tryd.func6
    (ChangeSpec.witness_shaped (enc := enc) (C := Tryd.checked) (os := os) (X := fun w _ => laidMetH Tryd.prog laid1 w) false (World.doorLaid Tryd.prog 400 os) #[.agg #[.int .u8 0, .int .i64 0], .int .u64 0, .slice none 0 0] 8 rfl (World.shaped_of_RefB (by kernel_rfl) (by kernel_rfl)) (by kernel_rfl) (by kernel_rfl) (by kernel_rfl) (door_met os _)) ?_
  intro W base args ds gs before hval0 hW _ _ hL _
  have hval : ∀ (j : Nat) t v, Tryd.f6.params[j]? = some t → args[j]? = some v → Value.okWide Tryd.prog W .any base t v := hval0
  have hW' := hW
  obtain ⟨p, q, hA0, hV, rfl, hfz, hnd⟩ := hW
  have hA : DataW.TrodAll enc Tryd.prog W 0 (fun _ => true) true Tryd.f6.params.toList args.toList ds p := hA0
  rw [Tryd.params6] at hA hval
  obtain ⟨v0, vs0, d0, ds0, p0, q0, hargs, rfl, rfl, h0, r0⟩ := trodAll_cons hA
  obtain ⟨v1, vs1, d1, ds1, p1, q1, rfl, rfl, rfl, h1, r1⟩ := trodAll_cons r0
  obtain ⟨v2, vs2, d2, ds2, p2, q2, rfl, rfl, rfl, h2, r2⟩ := trodAll_cons r1
  obtain ⟨rfl, rfl, rfl⟩ := trodAll_nil r2
  obtain rfl : args = #[v0, v1, v2] := by cases args; simp_all
  obtain ⟨rfl, rfl⟩ := trodVars_none hV
  have k0 := h0
  have lt0 : ∀ x ∈ p0, x.block < W.heap.size := by obtain ⟨m, hm⟩ := k0; exact DataW.trod_lt m _ _ _ hm
  obtain ⟨c00, c01, y00, y01, m0, rfl, rfl, rfl, hy00, hy01⟩ := Joins.open_agg2 Tryd.underlying37 (by kernel_rfl) (show Tryd.prog.cellsOf 37 = 2 by kernel_rfl) (hval 0 37 v0 rfl rfl) h0
  obtain ⟨first0, f00, rfl, wf0⟩ := DataW.trod_int Tryd.underlying5 hy00
  obtain ⟨bits0, f01, rfl, wb0⟩ := DataW.trod_int Tryd.underlying3 hy01
  simp at f00 f01
  subst f00 f01
  have bf0 := bounds_u8 wf0
  obtain ⟨a1, rfl, rfl, rfl, w1⟩ := open_int Tryd.underlying25 (hval 1 25 v1 rfl rfl) h1
  have bd1 := bounds_u64 w1
  obtain ⟨a2, len2, cap2, rfl⟩ := okWide_slice Tryd.underlying22 (hval 2 22 v2 rfl rfl)
  have k2 := h2
  have lt2 : ∀ x ∈ p2, x.block < W.heap.size := by obtain ⟨m, hm⟩ := k2; exact DataW.trod_lt m _ _ _ hm
  obtain ⟨z2, w2⟩ : ∃ zs, IsRow W a2 len2 cap2 zs := by
    obtain ⟨fuel, hf⟩ := h2
    rcases open_ints Tryd.underlying22 Tryd.underlying5 (by kernel_rfl) hf with ⟨hcs, _⟩ | ⟨x, l, c, zs, hcs, _, hl, hm, hz, _, hcell, hwz⟩
    · simp [Value.cells] at hcs
      obtain ⟨rfl, rfl, rfl⟩ := hcs
      exact ⟨[], .inl ⟨rfl, rfl, rfl, rfl⟩⟩
    · simp [Value.cells] at hcs
      obtain ⟨rfl, rfl, rfl⟩ := hcs
      exact ⟨zs, .inr ⟨_, rfl, hl, hm, by simpa using hz, hcell, hwz⟩⟩
  obtain ⟨e21, e22, e23, e24, e25⟩ := w2.lies
  clear hA0 hval0
  simp only [List.append_nil, List.nil_append] at hW'
  refine (prefixBack_walk first0 bits0 a1 a2 len2 cap2 (z2.take len2) W bf0.1 bf0.2 bd1.1 e21 e22 w2.nil e24 e25 (of_laid hL)).mono fun e W' ⟨he, bel⟩ => ?_
  subst he
  exact ⟨_, rfl, _, _, _, [], _, [], hW', trodAll_mk1 (shut_bool Tryd.underlying4 _), (trodAll_cons_mk (Below.trod laidOut (by kernel_rfl) (of_decide_eq_true (by kernel_rfl)) k0 bel lt0) (trodAll_cons_mk (shut_int Tryd.underlying25 w1) (trodAll_cons_mk (Below.trod laidOut (by kernel_rfl) (of_decide_eq_true (by kernel_rfl)) k2 bel lt2) trodAll_mk0))), rfl, bel.frame _, fun h => by cases h⟩

theorem prefixBack_holds : Rows.VarintPrefixBackSaid :=
  OpenClaim.holds_of_wide 6 Tryd.f6 rfl rfl rfl rfl rfl rfl rfl ⟨rfl, rfl, rfl, rfl, rfl⟩ rfl rfl rfl rfl rfl (by kernel_rfl) Tryd.func6 (by kernel_rfl)
    (of_decide_eq_true (by kernel_rfl)) (by unfold Func.isWrapper; first | (rw [if_pos (by decide +kernel)]; kernel_rfl) | (rw [if_neg (by decide +kernel)]; exact ⟨rfl, rfl⟩))
    (fun os started H enc _ => prefixBack_lifted os started H enc)

theorem varintPrefixBack_card : Rows.VarintPrefixBackCardSaid :=
  Claim7.holds_tied_plain_at .later [] [.data] true (true, "6827b3b49ff6a28c02ae14668346ec4938934fd8076c44a8f347ad44f629ef54") false
    prefixBack_holds (fun _ h => by cases h) (by kernel_rfl) (fun _ h => by cases h) varintPrefixBack_row_tie rfl ⟨rfl, rfl⟩ (by kernel_rfl) rfl
    (fun f fn hf hfn => by
      obtain rfl : f = 6 := Option.some.inj ((show Tryd.prog.funcNamed "mailcoach/mailcoachlaw01.VarintPrefixBack" = some 6 by kernel_rfl).symm.trans hf) |>.symm
      obtain rfl : fn = Tryd.f6 := (Option.some.inj (Tryd.func6.symm.trans hfn)).symm
      exact ⟨by kernel_rfl, fun j t ht => by
        rw [Tryd.params6] at ht
        have hm : t ∈ [37, 25, 22] := by simpa using Array.mem_of_getElem? ht
        have hall : ([37, 25, 22].all fun u => !Tryd.prog.wantsStandIn u) = true := by kernel_rfl
        exact (show Tryd.prog.wantsStandIn t = false by simpa using List.all_eq_true.1 hall t hm)⟩)
    (by kernel_rfl)
#print axioms varintPrefixBack_card
end Go.Proofs.YtmgmejbjekojnaaDoor
