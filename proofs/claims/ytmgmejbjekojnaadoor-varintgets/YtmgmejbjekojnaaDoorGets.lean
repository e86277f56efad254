/-
  VarintGets: the number that any bytes begin with is exactly the documented one, or they are refused; the bytes stay as they were.
  For every slice of bytes, where varint.lengths holds what its own initialiser lays (the card ties it).
-/
import Derived.Test.YtmgmejbjekojnaaDoorGet
import Derived.Test.YtmgmejbjekojnaaDoorLift
namespace Go.Proofs.YtmgmejbjekojnaaDoor
open Go.ChangeShapes Go.WideShapes Go.ChangeAt Go.RowKit

theorem Lies.below {w w' : World} {a : Option Addr} {zs : List Int} (h : Lies w a zs) (hb : Below w.heap.size w w') : Lies w' a zs := by
  rcases h with h | ⟨b, off, rfl, hlt, hc⟩
  · exact .inl h
  · exact .inr ⟨b, off, rfl, Nat.lt_of_lt_of_le hlt hb.size, fun j hj => (hb.cell (p := ⟨b, off + j, none⟩) hlt).trans (hc j hj)⟩

theorem Lens.below {w w' : World} (h : Lens w) (hp : 0 < w.heap.size) (hb : Below w.heap.size w w') : Lens w' :=
  ⟨(hb.cell (p := ⟨0, 0, none⟩) hp).trans h.1, (hb.cell (p := ⟨0, 1, none⟩) hp).trans h.2.1, (hb.cell (p := ⟨0, 2, none⟩) hp).trans h.2.2.1, (hb.cell (p := ⟨0, 3, none⟩) hp).trans h.2.2.2⟩

theorem Lens.pos {w : World} (h : Lens w) : 0 < w.heap.size := by
  rcases Nat.eq_zero_or_pos w.heap.size with h0 | h0
  · have := h.1
    simp [World.cell?, h0] at this
  · exact h0

set_option maxHeartbeats 1000000 in
theorem gets_walk (a : Option Addr) (len cap : Nat) (zs : List Int) (w : World) (hz : zs.length = len) (hm : len ≤ 9223372036854775807) (hLies : Lies w a zs) (hb : ∀ j : Nat, 0 ≤ zs[j]?.getD 0 ∧ zs[j]?.getD 0 ≤ 255) (hL : Lens w) :
    Calls Tryd.prog 3 #[.slice a len cap] w fun e w' => e = .returned (.bool true) ∧ Below w.heap.size w w' := by
  have hbel0 : Below w.heap.size w (w.alloc (.cells #[.int .i64 (len : Int)] 3)) := (Below.refl _ w).alloc (Nat.le_refl _) _
  by_cases hl : len ≤ 1048576
  · have H1 : Hid (Lies (w.alloc (.cells #[.int .i64 (len : Int)] 3)) a zs) := hLies.below hbel0
    have H2 : Hid (Lens (w.alloc (.cells #[.int .i64 (len : Int)] 3))) := hL.below hL.pos hbel0
    have HZ : Hid (zs.length = len) := hz
    obtain ⟨x, n, e, hv⟩ : ∃ x n e, getV zs = .tuple #[.int .u64 x, .int .i64 n, .int .i64 e] := ⟨_, _, _, rfl⟩
    have HV : Hid (getV zs = .tuple #[.int .u64 x, .int .i64 n, .int .i64 e]) := hv
    clear hv hz hL hLies
    go_enter Tryd.func3, Tryd.ntmps3
    go_wp2_with fail
    refine (beyond_no _ _ (len : Int) _ (by omega) (by omega) (by simp)).mono ?_
    rintro e1 w1 ⟨rfl, rfl⟩
    go_wp2_with fail
    refine (twin_any _ _ _ zs _ HZ.out hl H1.out).mono ?_
    rintro e2 w2 ⟨g, rfl, hown, hbel2⟩
    obtain ⟨hg, hg2, hT, h77⟩ := twin_cells HZ.out hown
    have HT : Hid (∀ j : Nat, j < len → w2.cell? ⟨g, j, none⟩ = some (.int .u8 (zs[j]?.getD 0))) := hT
    have H77 : Hid (w2.cell? ⟨g, len, none⟩ = some (.int .u8 77)) := h77
    have HLt : Hid (Lies w2 (some ⟨g, 0, none⟩) zs) := .inr ⟨g, 0, rfl, hg, fun j hj => by have := hT j (by rw [← HZ.out]; exact hj); simpa using this⟩
    have HLb : Hid (Lies w2 a zs) := H1.out.below hbel2
    have HLn : Hid (Lens w2) := H2.out.below (by simp) hbel2
    have HB : Hid (Below w.heap.size w w2) := hbel0.trans (hbel2.mono (by simp))
    clear hT h77 hown hbel2 hbel0 hg2
    go_wp2_with fail
    refine (get_any _ _ _ zs _ HZ.out hl (by omega) HLt.out hb HLn.out).mono ?_
    rintro e3 w3 ⟨rfl, rfl⟩
    rw [HV.out]
    go_wp2_with fail
    refine (refget_any _ _ _ zs _ HZ.out hl HLb.out hb).mono ?_
    rintro e4 w4 ⟨rfl, rfl⟩
    rw [HV.out]
    go_wp2_with fail
    refine (left_any _ _ _ _ zs _ HZ.out hl HLb.out hg HT.out H77.out).mono ?_
    rintro e5 w5 ⟨rfl, hbel5⟩
    go_wp2
    go_ret
    exact ⟨rfl, HB.out.trans (hbel5.mono HB.out.size)⟩
  · clear hLies hL hz
    go_enter Tryd.func3, Tryd.ntmps3
    go_wp2_with fail
    refine (beyond_yes _ _ (len : Int) _ (by omega) (by omega) (by simp)).mono ?_
    rintro e1 w1 ⟨rfl, rfl⟩
    go_wp2
    go_ret
    exact ⟨rfl, hbel0⟩
/-! ### The row -/
set_option maxRecDepth 100000 in
theorem gets_lifted (os : Os) (started : os.Started) (H : Type) (enc : TypeId × Value → H) :
    ReturnsInHanded {} Tryd.checked os 3 .any (fun w args => (Rows.varintGetsSpec.pre enc Tryd.prog Tryd.f3 [] false w args ∧ laidMetH Tryd.prog laid1 w) ∧ sizedMet enc Tryd.prog Tryd.f3 (OpenSpec.ofChange Rows.varintGetsSpec) false w args)
      (Rows.varintGetsSpec.post enc Tryd.prog Tryd.f3 false true false false) := by
  refine returnsInHanded_of_change_and (C := Tryd.checked) (X := fun w _ => laidMetH Tryd.prog laid1 w) (fun _ _ _ hh h => h.of_heap hh) own started (by kernel_rfl) Tryd.func3
    (ChangeSpec.witness_shaped (enc := enc) (C := Tryd.checked) (os := os) (X := fun w _ => laidMetH Tryd.prog laid1 w) false (World.doorLaid Tryd.prog 400 os) #[.slice none 0 0] 8 rfl (World.shaped_of_RefB (by kernel_rfl) (by kernel_rfl)) (by kernel_rfl) (by kernel_rfl) (by kernel_rfl) (door_met os _)) ?_
  intro W base args ds gs before hval0 hW _ _ hL _
  have hval : ∀ (j : Nat) t v, Tryd.f3.params[j]? = some t → args[j]? = some v → Value.okWide Tryd.prog W .any base t v := hval0
  have hW' := hW
  obtain ⟨p, q, hA0, hV, rfl, hfz, hnd⟩ := hW
  have hA : DataW.TrodAll enc Tryd.prog W 0 (fun _ => true) true Tryd.f3.params.toList args.toList ds p := hA0
  rw [Tryd.params3] at hA hval
  obtain ⟨v0, vs0, d0, ds0, p0, q0, hargs, rfl, rfl, h0, r0⟩ := trodAll_cons hA
  obtain ⟨rfl, rfl, rfl⟩ := trodAll_nil r0
  obtain rfl : args = #[v0] := by cases args; simp_all
  obtain ⟨rfl, rfl⟩ := trodVars_none hV
  obtain ⟨a0, len0, cap0, rfl⟩ := okWide_slice Tryd.underlying22 (hval 0 22 v0 rfl rfl)
  have k0 := h0
  have lt0 : ∀ x ∈ p0, x.block < W.heap.size := by obtain ⟨m, hm⟩ := k0; exact DataW.trod_lt m _ _ _ hm
  obtain ⟨z0, w0⟩ : ∃ zs, IsRow W a0 len0 cap0 zs := by
    obtain ⟨fuel, hf⟩ := h0
    rcases open_ints Tryd.underlying22 Tryd.underlying5 (by kernel_rfl) hf with ⟨hcs, _⟩ | ⟨x, l, c, zs, hcs, _, hl, hm, hz, _, hcell, hwz⟩
    · simp [Value.cells] at hcs
      obtain ⟨rfl, rfl, rfl⟩ := hcs
      exact ⟨[], .inl ⟨rfl, rfl, rfl, rfl⟩⟩
    · simp [Value.cells] at hcs
      obtain ⟨rfl, rfl, rfl⟩ := hcs
      exact ⟨zs, .inr ⟨_, rfl, hl, hm, by simpa using hz, hcell, hwz⟩⟩
  clear hA0 hval0
  obtain ⟨e1, e2, e3, e4, e5⟩ := w0.lies
  refine (gets_walk a0 len0 cap0 (z0.take len0) W e1 e2 e4 e5 (of_laid hL)).mono fun e W' ⟨he, bel⟩ => ?_
  subst he
  exact ⟨_, rfl, _, _, _, [], _, [], hW', trodAll_mk1 (shut_bool Tryd.underlying4 _), (trodAll_cons_mk (Below.trod laidOut (by kernel_rfl) (of_decide_eq_true (by kernel_rfl)) k0 bel lt0) trodAll_mk0), rfl, bel.frame _, fun h => by cases h⟩

theorem gets_holds : Rows.VarintGetsSaid :=
  OpenClaim.holds_of_wide 3 Tryd.f3 rfl rfl rfl rfl rfl rfl rfl ⟨rfl, rfl, rfl, rfl, rfl⟩ rfl rfl rfl rfl rfl (by kernel_rfl) Tryd.func3 (by kernel_rfl)
    (of_decide_eq_true (by kernel_rfl)) (by unfold Func.isWrapper; first | (rw [if_pos (by decide +kernel)]; kernel_rfl) | (rw [if_neg (by decide +kernel)]; exact ⟨rfl, rfl⟩))
    (fun os started H enc _ => gets_lifted os started H enc)

theorem varintGets_card : Rows.VarintGetsCardSaid :=
  Claim7.holds_tied_plain_at .later [] [.data] true (true, "6827b3b49ff6a28c02ae14668346ec4938934fd8076c44a8f347ad44f629ef54") false
    gets_holds (fun _ h => by cases h) (by kernel_rfl) (fun _ h => by cases h) varintGets_row_tie rfl ⟨rfl, rfl⟩ (by kernel_rfl) rfl
    (fun f fn hf hfn => by
      obtain rfl : f = 3 := Option.some.inj ((show Tryd.prog.funcNamed "mailcoach/mailcoachlaw01.VarintGets" = some 3 by kernel_rfl).symm.trans hf) |>.symm
      obtain rfl : fn = Tryd.f3 := (Option.some.inj (Tryd.func3.symm.trans hfn)).symm
      exact ⟨by kernel_rfl, fun j t ht => by
        rw [Tryd.params3] at ht
        have hm : t ∈ [22] := by simpa using Array.mem_of_getElem? ht
        have hall : ([22].all fun u => !Tryd.prog.wantsStandIn u) = true := by kernel_rfl
        exact (show Tryd.prog.wantsStandIn t = false by simpa using List.all_eq_true.1 hall t hm)⟩)
    (by kernel_rfl)
#print axioms varintGets_card
end Go.Proofs.YtmgmejbjekojnaaDoor
