/-
  VarintPrefixes: every number is put into what is left of any byte exactly as documented, or refused; answers are memory of their own.
  For every byte, number of bits and number.
-/
import Derived.Test.YtdoojlffejjbaaaDoorRefPutP
import Derived.Test.YtdoojlffejjbaaaDoorLiftD
import Derived.Deep.QuietTactic
import Derived.Deep.RegionHeld3
import Derived.BigQuiet
namespace Go.Proofs.YtdoojlffejjbaaaDoor
open Go.ChangeShapes Go.WideShapes Go.ChangeAt Go.RowKit

set_option maxRecDepth 20000 in
set_option maxHeartbeats 4000000 in
theorem prefixes_walk (first b n : Int) (w : World) (f0 : 0 ≤ first) (f1 : first ≤ 255) (n0 : 0 ≤ n) :
    Calls Tryd.prog 5 #[.int .u8 first, .int .i64 b, .int .u64 n] w fun e w' => e = .returned (.bool true) ∧ Below w.heap.size w w' := by
  obtain ⟨xs, E, hx, hput, href⟩ := prefix_cases first b n f0 f1 n0
  have HPut : Hid (∀ w, Calls Tryd.prog 18 #[.int .u8 first, .int .i64 b, .int .u64 n] w fun e w' => ∃ a c, e = .returned (.tuple #[.slice a xs.length c, .int .i64 E]) ∧ OwnsV w.heap.size w' a xs.length c xs ∧ Below w.heap.size w w') := hput
  have HRef : Hid (∀ w, Calls Tryd.prog 19 #[.int .u8 first, .int .i64 b, .int .u64 n] w fun e w' => ∃ a c, e = .returned (.tuple #[.slice a xs.length c, .int .i64 E]) ∧ OwnsV w.heap.size w' a xs.length c xs ∧ Below w.heap.size w w') := href
  clear hput href
  obtain ⟨n0, hn0⟩ : ∃ N, xs.length = N := ⟨_, rfl⟩
  rw [hn0] at hx HPut HRef
  have hee : (E != E) = false := by simp
  go_enter Tryd.func5, Tryd.ntmps5
  go_wp2_with fail
  refine (HPut.out w).mono ?_
  rintro e1 w1 ⟨a1, c1, rfl, ho1, hb1⟩
  go_wp2_with fail
  refine (HPut.out w1).mono ?_
  rintro e2 w2 ⟨a2, c2, rfl, ho2, hb2⟩
  go_wp2_with fail
  refine (HRef.out w2).mono ?_
  rintro e3 w3 ⟨a3, c3, rfl, ho3, hb3⟩
  have HO1 : Hid (OwnsV w.heap.size w3 a1 n0 c1 xs) := (ho1.step hb2).step hb3
  have HO2 : Hid (OwnsV w.heap.size w3 a2 n0 c2 xs) := (ho2.mono hb1.size).step hb3
  have HO3 : Hid (OwnsV w2.heap.size w3 a3 n0 c3 xs) := ho3
  have HA : Hid ((Value.slice a1 n0 c1).ownBlock = none ∨ (Value.slice a1 n0 c1).ownBlock ≠ (Value.slice a2 n0 c2).ownBlock) := two_apart ho1 ho2
  have HB : Hid (Below w.heap.size w w3) := (hb1.trans (hb2.mono hb1.size)).trans (hb3.mono (hb1.trans (hb2.mono hb1.size)).size)
  clear ho1 ho2 ho3 hb1 hb2 hb3 HPut HRef
  have HS1 : Hid (∀ W, Below w3.heap.size w3 W → Calls Tryd.prog 10 #[.slice a1 n0 c1, .slice a3 n0 c3] W fun e w' => e = .returned (.bool true) ∧ Below W.heap.size W w') := fun W hW => same_yes HO1.out HO3.out (by omega) W hW hW
  have HS2 : Hid (∀ W, Below w3.heap.size w3 W → Calls Tryd.prog 10 #[.slice a2 n0 c2, .slice a3 n0 c3] W fun e w' => e = .returned (.bool true) ∧ Below W.heap.size W w') := fun W hW => same_yes HO2.out HO3.out (by omega) W hW hW
  go_wp2_with fail
  refine (HS1.out w3 (Below.refl _ _)).mono ?_
  rintro e4 w4 ⟨rfl, hb4⟩
  go_wp2_with fail
  refine (HS2.out w4 hb4).mono ?_
  rintro e5 w5 ⟨rfl, hb5⟩
  have hb35 := hb4.trans (hb5.mono hb4.size)
  have HP1 : Hid (OwnsV w.heap.size w5 a1 n0 c1 xs) := HO1.out.step hb35
  have HP2 : Hid (OwnsV w.heap.size w5 a2 n0 c2 xs) := HO2.out.step hb35
  have HB5 : Hid (Below w.heap.size w w5) := HB.out.trans (hb35.mono HB.out.size)
  clear hb4 hb5 hb35 HO1 HO2 HO3 HB HS1 HS2
  go_wp2_with fail
  have HK := Bk.new w.heap.size (fun _ => .slice none 0 0) (fun _ => 0) (fun _ => []) w w5 HB5.out.size HB5.out 41
  refine (bytes_any w.heap.size w5.heap.size 0 _ _ _ _ w _ (.slice a1 n0 c1) n0 _ (by decide) HK (HP1.out.2.alloc _) (fun k e => (HP1.out.lt k e).2) (fun i hi => absurd hi (Nat.not_lt_zero _))).mono ?_
  rintro e6 w6 ⟨rfl, V6, bk6, hold6⟩
  have HK6 : Hid _ := bk6
  have HQ2 : Hid (w6.ownsRow w.heap.size 5 1 (.slice a2 n0 c2) n0 (xs.map (Value.int .u8))) := hold6 _ _ _ (HP2.out.2.alloc _) (fun k e => (HP2.out.lt k e).2)
  have HA1 : ∀ i, i < 1 → (upd (fun _ => Value.slice none 0 0) 0 (Value.slice a1 n0 c1) i).ownBlock = none ∨ (upd (fun _ => Value.slice none 0 0) 0 (Value.slice a1 n0 c1) i).ownBlock ≠ (Value.slice a2 n0 c2).ownBlock := by
    intro i hi
    obtain rfl : i = 0 := Nat.lt_one_iff.1 hi
    exact HA.out
  clear HK bk6 hold6
  go_wp2_with fail
  refine (bytes_any w.heap.size w5.heap.size 1 _ _ _ _ w _ (.slice a2 n0 c2) n0 _ (by decide) HK6.out HQ2.out (fun k e => (HP2.out.lt k e).2) (fun i hi => HA1 i hi)).mono ?_
  rintro e7 w7 ⟨rfl, V7, bk7, hold7⟩
  have HK7 : Hid _ := bk7
  clear bk7 hold7 HK6 HQ2
  go_wp2_with fail
  refine (apart_two w.heap.size w5.heap.size n0 c1 c2 a1 a2 _ _ _ _ _ _ w w7 (by omega) HK7.out).mono ?_
  rintro e8 w8 ⟨rfl, hb8⟩
  go_wp2_with fail
  go_ret
  exact ⟨rfl, hb8⟩
/-! ### The row -/
set_option maxRecDepth 100000 in
theorem prefixes_lifted (os : Os) (started : os.Started) (H : Type) (enc : TypeId × Value → H) :
    ReturnsInHanded {} Tryd.checked os 5 .any (fun w args => (Rows.varintPrefixesSpec.pre enc Tryd.prog Tryd.f5 [] false w args ∧ laidMetH Tryd.prog laid3 w) ∧ sizedMet enc Tryd.prog Tryd.f5 (OpenSpec.ofChange Rows.varintPrefixesSpec) false w args)
      (Rows.varintPrefixesSpec.post enc Tryd.prog Tryd.f5 false true false false) := by
  refine returnsInHanded_of_change_and (C := Tryd.checked) (X := fun w _ => laidMetH Tryd.prog laid3 w) (fun _ _ _ hh h => h.of_heap hh) own started (by kernel_rfl) Tryd.func5
    (ChangeSpec.witness_shaped (enc := enc) (C := Tryd.checked) (os := os) (X := fun w _ => laidMetH Tryd.prog laid3 w) false (World.doorLaid Tryd.prog 400 os) #[.int .u8 0, .int .i64 0, .int .u64 0] 8 rfl (World.shaped_of_RefB (by kernel_rfl) (by kernel_rfl)) (by kernel_rfl) (by kernel_rfl) (by kernel_rfl) (door_met3 os _)) ?_
  intro W base args ds gs before hval0 hW _ _ hL _
  have hval : ∀ (j : Nat) t v, Tryd.f5.params[j]? = some t → args[j]? = some v → Value.okWide Tryd.prog W .any base t v := hval0
  have hW' := hW
  obtain ⟨p, q, hA0, hV, rfl, hfz, hnd⟩ := hW
  have hA : DataW.TrodAll enc Tryd.prog W 0 (fun _ => true) true Tryd.f5.params.toList args.toList ds p := hA0
  rw [Tryd.params5] at hA hval
  obtain ⟨v0, vs0, d0, ds0, p0, q0, hargs, rfl, rfl, h0, r0⟩ := trodAll_cons hA
  obtain ⟨v1, vs1, d1, ds1, p1, q1, rfl, rfl, rfl, h1, r1⟩ := trodAll_cons r0
  obtain ⟨v2, vs2, d2, ds2, p2, q2, rfl, rfl, rfl, h2, r2⟩ := trodAll_cons r1
  obtain ⟨rfl, rfl, rfl⟩ := trodAll_nil r2
  obtain rfl : args = #[v0, v1, v2] := by cases args; simp_all
  obtain ⟨rfl, rfl⟩ := trodVars_none hV
  obtain ⟨a0, rfl, rfl, rfl, w0⟩ := open_int Tryd.underlying5 (hval 0 5 v0 rfl rfl) h0
  have bd0 := bounds_u8 w0
  obtain ⟨a1, rfl, rfl, rfl, w1⟩ := open_int Tryd.underlying3 (hval 1 3 v1 rfl rfl) h1
  have bd1 := bounds_i64 w1
  obtain ⟨a2, rfl, rfl, rfl, w2⟩ := open_int Tryd.underlying22 (hval 2 22 v2 rfl rfl) h2
  have bd2 := bounds_u64 w2
  clear hA0 hval0
  simp only [List.append_nil] at hW'
  refine (prefixes_walk a0 a1 a2 W bd0.1 bd0.2 bd2.1).mono fun e W' ⟨he, bel⟩ => ?_
  subst he
  exact ⟨_, rfl, _, _, _, [], _, [], hW', trodAll_mk1 (shut_bool Tryd.underlying4 _), (trodAll_cons_mk (shut_int Tryd.underlying5 w0) (trodAll_cons_mk (shut_int Tryd.underlying3 w1) (trodAll_cons_mk (shut_int Tryd.underlying22 w2) trodAll_mk0))), rfl, bel.frame _, fun h => by cases h⟩

theorem prefixes_holds : Rows.VarintPrefixesSaid :=
  OpenClaim.holds_of_wide 5 Tryd.f5 rfl rfl rfl rfl rfl rfl rfl ⟨rfl, rfl, rfl, rfl, rfl⟩ rfl rfl rfl rfl rfl (by kernel_rfl) Tryd.func5 (by kernel_rfl)
    (of_decide_eq_true (by kernel_rfl)) (by unfold Func.isWrapper; first | (rw [if_pos (by decide +kernel)]; kernel_rfl) | (rw [if_neg (by decide +kernel)]; exact ⟨rfl, rfl⟩))
    (fun os started H enc _ => prefixes_lifted os started H enc)

theorem varintPrefixes_card : Rows.VarintPrefixesCardSaid :=
  Claim7.holds_tied_plain_at .later [] [.data, .data, .data] true (true, "0abb4161f94d39da131cba7b7fd24be80d85772b591cc6f0c839e3c5a70daef7") false
    prefixes_holds (fun _ h => by cases h) (by kernel_rfl) (fun _ h => by cases h) varintPrefixes_row_tie rfl ⟨rfl, rfl⟩ (by kernel_rfl) rfl
    (fun f fn hf hfn => by
      obtain rfl : f = 5 := Option.some.inj ((show Tryd.prog.funcNamed "mailcoach/mailcoachlaw01.VarintPrefixes" = some 5 by kernel_rfl).symm.trans hf) |>.symm
      obtain rfl : fn = Tryd.f5 := (Option.some.inj (Tryd.func5.symm.trans hfn)).symm
      exact ⟨by kernel_rfl, fun j t ht => by
        rw [Tryd.params5] at ht
        have hm : t ∈ [5, 3, 22] := by simpa using Array.mem_of_getElem? ht
        have hall : ([5, 3, 22].all fun u => !Tryd.prog.wantsStandIn u) = true := by kernel_rfl
        exact (show Tryd.prog.wantsStandIn t = false by simpa using List.all_eq_true.1 hall t hm)⟩)
    (by kernel_rfl)
#print axioms varintPrefixes_card
end Go.Proofs.YtdoojlffejjbaaaDoor
