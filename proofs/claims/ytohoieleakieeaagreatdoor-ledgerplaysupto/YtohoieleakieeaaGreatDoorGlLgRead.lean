/-
  What a ledger tells: New, Away, Room, Times, Wait, When.
-/
import Derived.Test.YtohoieleakieeaaGreatDoorGl13
namespace Go.Proofs.YtohoieleakieeaaGreatDoor
open Go Go.RowKit

set_option maxRecDepth 20000 in
theorem ledNew_any (w : World) :
    Calls Tryz.prog 5 #[] w fun e w' => ∃ g, e = .returned (.pointer (some ⟨g, 0, none⟩)) ∧ w.heap.size ≤ g ∧ LdOk w' g (.slice none 0 0) newM15 ∧ Below w.heap.size w w' := by
  have UC := veil (unmeasured_any w)
  unfold tmC at UC
  go_enter Tryz.func5, Tryz.ntmps5
  go_wp2_with fail
  refine UC.out.mono ?_
  rintro e1 w1 ⟨rfl, hb⟩
  have HB := veil hb
  clear hb
  go_wp2
  go_ret
  exact ⟨_, rfl, HB.out.size, ⟨Row.new _ _ _, .nil _ _ _⟩, HB.out.alloc HB.out.size _⟩
section
variable (g : Nat) (v : Value) (m : ML) (w : World) (h : LdOk w g v m) (hw : 0 < m.win)
include h hw
set_option maxRecDepth 20000 in
theorem away_any : Calls Tryz.prog 21 #[.pointer (some ⟨g, 0, none⟩)] w fun e w' => e = .returned (.int .i64 (m.ask : Int)) ∧ w' = w := by
  have TC := veil (there_yes g v m w h.row hw)
  have c := h.cells.c1
  clear h hw
  go_enter Tryz.func21, Tryz.ntmps21
  go_wp2_with fail
  refine TC.out.mono ?_
  rintro e1 w1 ⟨rfl, rfl⟩
  go_wp2
  go_ret
  exact ⟨rfl, rfl⟩
set_option maxRecDepth 20000 in
theorem room_any : Calls Tryz.prog 22 #[.pointer (some ⟨g, 0, none⟩)] w fun e w' => e = .returned (.int .i64 (m.win : Int)) ∧ w' = w := by
  have TC := veil (there_yes g v m w h.row hw)
  have c := h.cells.c11
  clear h hw
  go_enter Tryz.func22, Tryz.ntmps22
  go_wp2_with fail
  refine TC.out.mono ?_
  rintro e1 w1 ⟨rfl, rfl⟩
  go_wp2
  go_ret
  exact ⟨rfl, rfl⟩
set_option maxRecDepth 20000 in
theorem times_any : Calls Tryz.prog 41 #[.pointer (some ⟨g, 0, none⟩)] w fun e w' => e = .returned (.agg (tmC m.lat m.smo m.var m.lea)) ∧ Below w.heap.size w w' := by
  have hb := (Below.refl w.heap.size w).alloc (Nat.le_refl _) (.cells #[.int .u64 0, .int .u64 0, .int .u64 0, .int .u64 0] 66)
  have h1 := h.below hb
  have TC := veil (there_yes g v m _ h1.row hw)
  have c6 := h1.cells.c6
  have c7 := h1.cells.c7
  have c8 := h1.cells.c8
  have c9 := h1.cells.c9
  have HB := veil hb
  clear h hw h1 hb
  unfold tmC
  go_enter Tryz.func41, Tryz.ntmps41
  go_wp2_with fail
  refine TC.out.mono ?_
  rintro e1 w1 ⟨rfl, rfl⟩
  go_wp2
  refine bodyPost_ret (results_cell_row rfl _ _ w.heap.size 66 _ (0, 0) _ rfl (Row.new _ _ _) Tryz.underlying66 rfl (by kernel_rfl)) rfl ⟨rfl, ?_⟩
  exact (Below.refl w.heap.size w).alloc (Nat.le_refl _) _
set_option maxRecDepth 20000 in
theorem when_none (h0 : m.ask = 0) : Calls Tryz.prog 20 #[.pointer (some ⟨g, 0, none⟩)] w fun e w' => e = .returned (.tuple #[.int .u64 0, .bool false]) ∧ w' = w := by
  have TC := veil (there_yes g v m w h.row hw)
  have c := h.cells.c1
  rw [h0] at c
  clear h hw h0
  go_enter Tryz.func20, Tryz.ntmps20
  go_wp2_with fail
  refine TC.out.mono ?_
  rintro e1 w1 ⟨rfl, rfl⟩
  go_wp2
  go_ret2
  exact ⟨rfl, rfl⟩
end
/-- The first packet that is on its way. -/
theorem way_first {w : World} {g : Nat} {v : Value} {m : ML} (h : LdOk w g v m) {p : Lg.Pk} {l : List Lg.Pk} (hl : m.way = p :: l) : ∃ b o cap, v = .slice (some ⟨b, o, none⟩) m.way.length cap ∧ b < w.heap.size ∧ w.cell? ⟨b, o, none⟩ = some (.int .u64 (p.num : Int)) ∧ w.cell? ⟨b, o + 2, none⟩ = some (.int .u64 (p.time : Int)) := by
  rcases h.way.2 with ⟨_, h2⟩ | ⟨b, o, cap, cur, rfl, hg, _⟩
  · rw [hl] at h2; cases h2
  · refine ⟨b, o, cap, rfl, (Array.getElem?_eq_some_iff.1 hg).1, ?_, ?_⟩
    · obtain ⟨g', o', e1, e2⟩ := h.way.cells (a := some ⟨b, o, none⟩) (cap := cap) 0 (.int .u64 (p.num : Int)) (by rw [hl]; rfl)
      injection e1 with e1
      injection e1 with e1 e3
      subst e1 e3
      exact e2
    · obtain ⟨g', o', e1, e2⟩ := h.way.cells (a := some ⟨b, o, none⟩) (cap := cap) 2 (.int .u64 (p.time : Int)) (by rw [hl]; rfl)
      injection e1 with e1
      injection e1 with e1 e3
      subst e1 e3
      exact e2
set_option maxRecDepth 20000 in
set_option maxHeartbeats 1000000 in
theorem when_some (g : Nat) (v : Value) (m : ML) (w : World) (h : LdOk w g v m) (hw : 0 < m.win) (h0 : 0 < m.ask) (p : Lg.Pk) (l : List Lg.Pk) (hl : m.way = p :: l) (hlat : m.lat ≤ 1099511627775) (hsmo : m.smo ≤ 1099511627775) (hvar : m.var ≤ 1099511627775) (hask : m.asked ≤ 1099511627775) (htm : p.time ≤ 1099511627775) :
    Calls Tryz.prog 20 #[.pointer (some ⟨g, 0, none⟩)] w fun e w' => e = .returned (.tuple #[.int .u64 (((if p.num < m.front then p.time + patN m.lat m.smo else m.asked + waitN m.smo m.var) : Nat) : Int), .bool true]) ∧ Below w.heap.size w w' := by
  have TC := veil (there_yes g v m w h.row hw)
  obtain ⟨b, o, cap, hv, hbl, x0, x2⟩ := way_first h hl
  subst hv
  have hc := h.cells
  obtain ⟨c0, c1, c2, c3, c4, c5, c6, c7, c8, c9, c10, c11, c12, c13, c14, f⟩ := hc
  have a1 : decide ((m.ask : Int) = 0) = false := by simp; omega
  have a2 : decide (m.ask = 0) = false := by simp; omega
  have a3 : ¬ (m.ask : Int) = 0 := by omega
  have a4 : ¬ m.ask = 0 := by omega
  have hwl : 0 < m.way.length := by rw [hl]; exact Nat.succ_pos _
  have PC := veil (fun w => patience_any m.lat m.smo m.var m.lea w hlat hsmo)
  have WC := veil (fun w => wait_any m.lat m.smo m.var m.lea w hsmo hvar)
  have hpat : patN m.lat m.smo ≤ 2000000000000 := by unfold patN; omega
  have hwai : waitN m.smo m.var ≤ 6000000000000 := by unfold waitN; omega
  have KB := veil (fun (W : World) (hW : Below w.heap.size w W) => (show W.cell? ⟨g, 0, none⟩ = some (.slice (some ⟨b, o, none⟩) m.way.length cap) ∧ W.cell? ⟨g, 3, none⟩ = some (.int .u64 (m.asked : Int)) ∧ W.cell? ⟨g, 6, none⟩ = some (.int .u64 (m.lat : Int)) ∧ W.cell? ⟨g, 7, none⟩ = some (.int .u64 (m.smo : Int)) ∧ W.cell? ⟨g, 8, none⟩ = some (.int .u64 (m.var : Int)) ∧ W.cell? ⟨g, 9, none⟩ = some (.int .u64 (m.lea : Int)) ∧ W.cell? ⟨b, o + 2, none⟩ = some (.int .u64 (p.time : Int)) from
    ⟨(hW.cell (p := ⟨g, 0, none⟩) h.lt).trans c0, (hW.cell (p := ⟨g, 3, none⟩) h.lt).trans c3, (hW.cell (p := ⟨g, 6, none⟩) h.lt).trans c6, (hW.cell (p := ⟨g, 7, none⟩) h.lt).trans c7, (hW.cell (p := ⟨g, 8, none⟩) h.lt).trans c8, (hW.cell (p := ⟨g, 9, none⟩) h.lt).trans c9, (hW.cell (p := ⟨b, o + 2, none⟩) hbl).trans x2⟩))
  unfold tmC at PC WC
  by_cases cc : p.num < m.front
  · rw [if_pos cc]
    obtain ⟨z, hz⟩ : ∃ z, p.time + patN m.lat m.smo = z := ⟨_, rfl⟩
    have e1 : IntKind.u64.wrap ((p.time : Int) + (patN m.lat m.smo : Int)) = (z : Int) := by rw [IntKind.wrap_u64]; omega
    rw [hz]
    have d1 : decide ((p.num : Int) < (m.front : Int)) = true := by simp; omega
    have d2 : decide (p.num < m.front) = true := by simp; omega
    clear hz h hw h0 hl hbl hpat hwai cc WC
    generalize patN m.lat m.smo = pt at *
    go_enter Tryz.func20, Tryz.ntmps20
    go_wp2_with fail
    refine TC.out.mono ?_
    rintro e1 w1 ⟨rfl, rfl⟩
    go_wp2_with fail
    go_quiet (fail)
    go_wp2_with fail
    go_region_held3 (fun w' => w'.cell? ⟨g, 0, none⟩ = some (.slice (some ⟨b, o, none⟩) m.way.length cap) ∧ w'.cell? ⟨g, 3, none⟩ = some (.int .u64 (m.asked : Int)) ∧ w'.cell? ⟨g, 6, none⟩ = some (.int .u64 (m.lat : Int)) ∧ w'.cell? ⟨g, 7, none⟩ = some (.int .u64 (m.smo : Int)) ∧ w'.cell? ⟨g, 8, none⟩ = some (.int .u64 (m.var : Int)) ∧ w'.cell? ⟨g, 9, none⟩ = some (.int .u64 (m.lea : Int)) ∧ w'.cell? ⟨b, o + 2, none⟩ = some (.int .u64 (p.time : Int))) (first | exact KB.out _ d9.out | exact KB.out _ (below_drewN (Below.refl _ _) _) | exact KB.out _ ((below_drewN (Below.refl _ _) _).drew) | go_keep) (first
      | (refine (PC.out _).mono ?_; rintro e9 w9 ⟨rfl, hb9⟩; have d9 := veil (((below_drewN (Below.refl _ w1) _).drew).trans hb9); clear hb9))
    go_wp2
    go_ret2
    exact ⟨rfl, d9.out⟩
  · rw [if_neg cc]
    obtain ⟨z, hz⟩ : ∃ z, m.asked + waitN m.smo m.var = z := ⟨_, rfl⟩
    have e1 : IntKind.u64.wrap ((m.asked : Int) + (waitN m.smo m.var : Int)) = (z : Int) := by rw [IntKind.wrap_u64]; omega
    rw [hz]
    have d1 : decide ((p.num : Int) < (m.front : Int)) = false := by simp; omega
    have d2 : decide (p.num < m.front) = false := by simp; omega
    clear hz h hw h0 hl hbl hpat hwai cc PC
    generalize waitN m.smo m.var = pt at *
    go_enter Tryz.func20, Tryz.ntmps20
    go_wp2_with fail
    refine TC.out.mono ?_
    rintro e1 w1 ⟨rfl, rfl⟩
    go_wp2_with fail
    go_quiet (fail)
    go_wp2_with fail
    go_region_held3 (fun w' => w'.cell? ⟨g, 0, none⟩ = some (.slice (some ⟨b, o, none⟩) m.way.length cap) ∧ w'.cell? ⟨g, 3, none⟩ = some (.int .u64 (m.asked : Int)) ∧ w'.cell? ⟨g, 6, none⟩ = some (.int .u64 (m.lat : Int)) ∧ w'.cell? ⟨g, 7, none⟩ = some (.int .u64 (m.smo : Int)) ∧ w'.cell? ⟨g, 8, none⟩ = some (.int .u64 (m.var : Int)) ∧ w'.cell? ⟨g, 9, none⟩ = some (.int .u64 (m.lea : Int)) ∧ w'.cell? ⟨b, o + 2, none⟩ = some (.int .u64 (p.time : Int))) (first | exact KB.out _ d9.out | exact KB.out _ (below_drewN (Below.refl _ _) _) | exact KB.out _ ((below_drewN (Below.refl _ _) _).drew) | go_keep) (first
      | (refine (WC.out _).mono ?_; rintro e9 w9 ⟨rfl, hb9⟩; have d9 := veil (((below_drewN (Below.refl _ w1) _).drew).trans hb9); clear hb9))
    go_wp2
    go_ret2
    exact ⟨rfl, d9.out⟩
set_option maxRecDepth 20000 in
theorem ledWait_any (g : Nat) (v : Value) (m : ML) (w : World) (h : LdOk w g v m) (hw : 0 < m.win) (hsmo : m.smo ≤ 1099511627775) (hvar : m.var ≤ 1099511627775) : Calls Tryz.prog 44 #[.pointer (some ⟨g, 0, none⟩)] w fun e w' => e = .returned (.int .u64 (waitN m.smo m.var : Int)) ∧ Below w.heap.size w w' := by
  have TC := veil (there_yes g v m w h.row hw)
  have c6 := h.cells.c6
  have c7 := h.cells.c7
  have c8 := h.cells.c8
  have c9 := h.cells.c9
  have WC := veil (wait_any m.lat m.smo m.var m.lea w hsmo hvar)
  unfold tmC at WC
  clear h hw hsmo hvar
  go_enter Tryz.func44, Tryz.ntmps44
  go_wp2_with fail
  refine TC.out.mono ?_
  rintro e1 w1 ⟨rfl, rfl⟩
  go_wp2_with fail
  refine WC.out.mono ?_
  rintro e2 w2 ⟨rfl, hb⟩
  have HB := veil hb
  clear hb c6 c7 c8 c9
  go_wp2
  go_ret
  exact ⟨rfl, HB.out⟩
end Go.Proofs.YtohoieleakieeaaGreatDoor
