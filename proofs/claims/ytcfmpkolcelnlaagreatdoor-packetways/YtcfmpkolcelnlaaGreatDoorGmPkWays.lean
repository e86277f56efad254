/-
  PacketWays: a number told in as many bytes as Short says, or more, is found again by whoever got any number from the one that was answered up to the one below it; for all numbers, all numbers that were answered.
-/
import Derived.Test.YtcfmpkolcelnlaaGreatDoorGm26
import Derived.Test.YtcfmpkolcelnlaaGreatDoorGm9
namespace Go.Proofs.YtcfmpkolcelnlaaGreatDoor
open Go Go.ChangeShapes Go.WideShapes Go.ChangeAt Go.RowKit

theorem four_cells {l : List Value} {a b c d : Value} (h : l.length = 4) (h0 : (l.drop 0).take 1 = [a]) (h1 : (l.drop 1).take 1 = [b]) (h2 : (l.drop 2).take 1 = [c]) (h3 : (l.drop 3).take 1 = [d]) : l = [a, b, c, d] := by
  match l, h with
  | [x, y, z, u], _ => simp at h0 h1 h2 h3; rw [h0, h1, h2, h3]
set_option maxRecDepth 100000 in
theorem open_way {H : Type} {enc : TypeId × Value → H} {W : World} {base : Nat} {v : Value} {d : DataW H} {ps : List MemPlace} (hval : Value.okWide Tryz.prog W .any base 71 v) (h0 : DataW.Trod enc Tryz.prog W 0 (fun _ => true) true 71 v d ps) :
    ∃ (x : Nat) (a : Int) (m r : Nat), v = .agg (wayC x a m r) ∧ x < 18446744073709551616 ∧ -9223372036854775808 ≤ a ∧ a ≤ 9223372036854775807 ∧ m < 256 ∧ r < 18446744073709551616 := by
  unfold Value.okWide at hval
  rw [Tryz.underlying71] at hval
  obtain ⟨cs, rfl, _⟩ := hval
  obtain ⟨fuel, hf⟩ := h0
  obtain ⟨xs, n, _, hxd, hlen, hxl, hfs⟩ := DataW.trod_struct Tryz.underlying71 hf
  have hl : Tryz.prog.cellsOf 71 = 4 := by kernel_rfl
  have cU : Tryz.prog.cellsOf 22 = 1 := by kernel_rfl
  have cI : Tryz.prog.cellsOf 2 = 1 := by kernel_rfl
  have cB : Tryz.prog.cellsOf 5 = 1 := by kernel_rfl
  have hx4 : xs.length = 4 := hxl
  have e0 : DataW.trod enc Tryz.prog W 0 (fun _ => true) true n 22 (List.take (Tryz.prog.cellsOf 22) (List.drop 0 _)) = xs[0]? := hfs 0 _ rfl
  have e1 : DataW.trod enc Tryz.prog W 0 (fun _ => true) true n 2 (List.take (Tryz.prog.cellsOf 2) (List.drop 1 _)) = xs[1]? := hfs 1 _ rfl
  have e2 : DataW.trod enc Tryz.prog W 0 (fun _ => true) true n 5 (List.take (Tryz.prog.cellsOf 5) (List.drop 2 _)) = xs[2]? := hfs 2 _ rfl
  have e3 : DataW.trod enc Tryz.prog W 0 (fun _ => true) true n 22 (List.take (Tryz.prog.cellsOf 22) (List.drop 3 _)) = xs[3]? := hfs 3 _ rfl
  rw [cU, List.getElem?_eq_getElem (by omega)] at e0 e3
  rw [cI, List.getElem?_eq_getElem (by omega)] at e1
  rw [cB, List.getElem?_eq_getElem (by omega)] at e2
  obtain ⟨x, h0, _, w0⟩ := DataW.trod_int Tryz.underlying22 e0
  obtain ⟨a, h1, _, w1⟩ := DataW.trod_int Tryz.underlying2 e1
  obtain ⟨m, h2, _, w2⟩ := DataW.trod_int Tryz.underlying5 e2
  obtain ⟨r, h3, _, w3⟩ := DataW.trod_int Tryz.underlying22 e3
  have b0 := bounds_u64 w0
  have b1 := bounds_i64 w1
  have b2 := bounds_u8 w2
  have b3 := bounds_u64 w3
  rw [hl] at hlen
  have := four_cells hlen h0 h1 h2 h3
  refine ⟨x.toNat, a, m.toNat, r.toNat, ?_, by omega, by omega, by omega, by omega, by omega⟩
  unfold wayC
  rw [Int.toNat_of_nonneg b0.1, Int.toNat_of_nonneg b2.1, Int.toNat_of_nonneg b3.1]
  congr 1
  apply Array.ext'
  exact this

/-! ### The row -/
set_option maxRecDepth 100000 in
theorem packetWays_lifted (os : Os) (started : os.Started) (H : Type) (enc : TypeId × Value → H) :
    ReturnsInHanded {} Tryz.checked os 7 .any (fun w args => (Rows.packetWaysSpec.pre enc Tryz.prog Tryz.f7 [] false w args ∧ laidMetH Tryz.prog laid4 w) ∧ sizedMet enc Tryz.prog Tryz.f7 (OpenSpec.ofChange Rows.packetWaysSpec) false w args)
      (Rows.packetWaysSpec.post enc Tryz.prog Tryz.f7 false true false false) := by
  refine returnsInHanded_of_change_and (C := Tryz.checked) (X := fun w _ => laidMetH Tryz.prog laid4 w) (fun _ _ _ hh h => h.of_heap hh) own started (by kernel_rfl) Tryz.func7
    (ChangeSpec.witness_shaped (enc := enc) (C := Tryz.checked) (os := os) (X := fun w _ => laidMetH Tryz.prog laid4 w) false (World.doorLaid Tryz.prog 400 os) #[.agg (wayC 0 0 0 0)] 8 rfl (World.shaped_of_RefB (by kernel_rfl) (by kernel_rfl)) (by kernel_rfl) (by kernel_rfl) (by kernel_rfl) (door_met4 os _)) ?_
  intro W base args ds gs before hval0 hW _ hsz hL _
  have hval : ∀ (j : Nat) t v, Tryz.f7.params[j]? = some t → args[j]? = some v → Value.okWide Tryz.prog W .any base t v := hval0
  have hW' := hW
  obtain ⟨p, q, hA0, hV, rfl, hfz, hnd⟩ := hW
  have hA : DataW.TrodAll enc Tryz.prog W 0 (fun _ => true) true Tryz.f7.params.toList args.toList ds p := hA0
  rw [Tryz.params7] at hA hval
  obtain ⟨v0, vs0, d0, ds0, p0, q0, hargs, rfl, rfl, h0, r0⟩ := trodAll_cons hA
  obtain ⟨rfl, rfl, rfl⟩ := trodAll_nil r0
  obtain rfl : args = #[v0] := by cases args; simp_all
  obtain ⟨rfl, rfl⟩ := trodVars_none hV
  obtain ⟨x, a, m, r, rfl, hx, ha1, ha2, hm, hr⟩ := open_way (hval 0 71 v0 rfl rfl) h0
  have lt0 : ∀ x ∈ p0, x.block < W.heap.size := by obtain ⟨m, hm⟩ := h0; exact DataW.trod_lt m _ _ _ hm
  clear hA0 hval0
  simp only [List.append_nil] at hW'
  refine (ways_walk x a m r W (glob_of hL) hx ha1 ha2 hm hr).mono fun e W' ⟨he, bel⟩ => ?_
  subst he
  exact ⟨_, rfl, _, _, _, [], _, [], hW', trodAll_mk1 (shut_bool Tryz.underlying4 _), trodAll_cons_mk (Below.trod laidOut (by kernel_rfl) (of_decide_eq_true (by kernel_rfl)) h0 bel lt0) trodAll_mk0, rfl, bel.frame _, fun h => by cases h⟩

theorem packetWays_holds : Rows.PacketWaysSaid :=
  OpenClaim.holds_of_wide 7 Tryz.f7 rfl rfl rfl rfl rfl rfl rfl ⟨rfl, rfl, rfl, rfl, rfl⟩ rfl rfl rfl rfl rfl (by kernel_rfl) Tryz.func7 (by kernel_rfl)
    (of_decide_eq_true (by kernel_rfl)) (by unfold Func.isWrapper; first | (rw [if_pos (by decide +kernel)]; kernel_rfl) | (rw [if_neg (by decide +kernel)]; exact ⟨rfl, rfl⟩))
    (fun os started H enc _ => packetWays_lifted os started H enc)

theorem packetWays_card : Rows.PacketWaysCardSaid :=
  Claim7.holds_tied_plain_at .later [] [.data, .data, .data] true (true, "3f1589a2c8ad210059d32e2e72d4f46e6d01cf3d1ad7fe9574af833d364a0f6b") false
    packetWays_holds (fun _ h => by cases h) (by kernel_rfl) (fun _ h => by cases h) packetWays_row_tie rfl ⟨rfl, rfl⟩ (by kernel_rfl) rfl
    (fun f fn hf hfn => by
      obtain rfl : f = 7 := Option.some.inj ((show Tryz.prog.funcNamed "mailcoach/mailcoachlaw13.PacketWays" = some 7 by kernel_rfl).symm.trans hf) |>.symm
      obtain rfl : fn = Tryz.f7 := (Option.some.inj (Tryz.func7.symm.trans hfn)).symm
      exact ⟨by kernel_rfl, fun j t ht => by
        rw [Tryz.params7] at ht
        have hm : t ∈ [71] := by simpa using Array.mem_of_getElem? ht
        have hall : ([71].all fun u => !Tryz.prog.wantsStandIn u) = true := by kernel_rfl
        exact (show Tryz.prog.wantsStandIn t = false by simpa using List.all_eq_true.1 hall t hm)⟩)
    (by kernel_rfl)
#print axioms packetWays_card
end Go.Proofs.YtcfmpkolcelnlaaGreatDoor
