/-
  Small steps of a ledger: measure, grow, shrink.
-/
import Derived.Test.YtohoieleakieeaaGeLgWith
import Derived.Test.YtohoieleakieeaaGe4
import Derived.BigQuiet
namespace Go.Proofs.Ytohoieleakieeaa
open Go Go.RowKit

theorem keepG (g : Nat) (W : World) (o : Nat) (v : Value) : KeepP (fun k => k = g) W (W.setCell ⟨g, o, none⟩ v) := KeepP.setCell (st := fun k => k = g) rfl W o v
def measM (m : ML) (latest delay : Nat) : ML :=
  if m.meas then { m with lat := latest, smo := withS m.smo (withA m.lea latest delay), var := withV m.smo m.var (withA m.lea latest delay), lea := min m.lea latest, meas := true }
  else { m with lat := latest, smo := latest, var := latest / 2, lea := latest, meas := true }
set_option maxRecDepth 20000 in
set_option maxHeartbeats 1000000 in
theorem measure_any (g : Nat) (v : Value) (m : ML) (latest delay : Nat) (w : World) (h : Row w g 51 (mlC v m)) (h1 : m.smo ≤ 1099511627775) (h2 : m.var ≤ 1099511627775) (h3 : m.lea ≤ 1099511627775) (h4 : latest ≤ 1099511627775) (h5 : delay ≤ 1099511627775) :
    Calls Try.prog 32 #[.pointer (some ⟨g, 0, none⟩), .int .u64 (latest : Int), .int .u64 (delay : Int)] w fun e w' => (∃ u, e = .returned u) ∧ Row w' g 51 (mlC v (measM m latest delay)) ∧ KeepP (fun k => k = g) w w' := by
  obtain ⟨way, ask, next, asked, now, front, lat, smo, var, lea, meas, win, shr, thr, mom⟩ := m
  simp only at h1 h2 h3
  have c := row_cells h
  obtain ⟨c0, c1, c2, c3, c4, c5, c6, c7, c8, c9, c10, c11, c12, c13, c14, f⟩ := c
  simp only at c6 c7 c8 c9 c10
  have f6 := f 6
  have f7 := f 7
  have f8 := f 8
  have f9 := f 9
  have f10 := f 10
  have H := veil h
  have WC := veil (fun w => with_any lat smo var lea latest delay w h1 h2 h3 h4 h5)
  obtain ⟨z, hz⟩ : ∃ z, latest / 2 = z := ⟨_, rfl⟩
  have e1 : Int.tdiv (latest : Int) 2 = (z : Int) := by rw [Int.tdiv_eq_ediv_of_nonneg (by omega)]; omega
  have e2 : IntKind.u64.wrap (z : Int) = (z : Int) := by rw [IntKind.wrap_u64]; omega
  clear c0 c1 c2 c3 c4 c5 c11 c12 c13 c14 f h h1 h2 h3 h4 h5
  cases meas
  · have hM : measM ⟨way, ask, next, asked, now, front, lat, smo, var, lea, false, win, shr, thr, mom⟩ latest delay = ⟨way, ask, next, asked, now, front, latest, latest, z, latest, true, win, shr, thr, mom⟩ := by rw [← hz]; rfl
    rw [hM]
    clear hM hz WC
    go_enter Try.func32, Try.ntmps32
    go_wp2
    refine bodyPost_end (results_none rfl _ _ _) rfl ?_
    refine ⟨⟨_, rfl⟩, ?_, ?_⟩
    · exact ((((H.out.set 6 (.int .u64 (latest : Int))).set 7 (.int .u64 (latest : Int))).set 8 (.int .u64 (z : Int))).set 9 (.int .u64 (latest : Int))).set 10 (.bool true)
    · exact (((((keepG g _ _ _).trans (keepG g _ _ _)).trans (keepG g _ _ _)).trans (keepG g _ _ _)).trans (keepG g _ _ _))
  · obtain ⟨A, hA⟩ : ∃ A, withA lea latest delay = A := ⟨_, rfl⟩
    obtain ⟨S1, hS1⟩ : ∃ S1, withS smo A = S1 := ⟨_, rfl⟩
    obtain ⟨V1, hV1⟩ : ∃ V1, withV smo var A = V1 := ⟨_, rfl⟩
    obtain ⟨L1, hL1⟩ : ∃ L1, min lea latest = L1 := ⟨_, rfl⟩
    have hM : measM ⟨way, ask, next, asked, now, front, lat, smo, var, lea, true, win, shr, thr, mom⟩ latest delay = ⟨way, ask, next, asked, now, front, latest, S1, V1, L1, true, win, shr, thr, mom⟩ := by rw [← hS1, ← hV1, ← hL1, ← hA]; rfl
    rw [hM]
    rw [hA, hS1, hV1, hL1] at WC
    unfold tmC at WC
    clear hM hA hS1 hV1 hL1 e1 e2 hz
    go_enter Try.func32, Try.ntmps32
    go_wp2_with fail
    refine (WC.out _).mono ?_
    rintro e9 w9 ⟨rfl, hb9⟩
    have r9 := H.out.below hb9 H.out.lt
    have K9 := veil (KeepP.of_below (st := fun k => k = g) hb9)
    have d6 : w9.cell? ⟨g, 6, none⟩ = some (.int .u64 (lat : Int)) := r9.cell 6
    have d7 : w9.cell? ⟨g, 7, none⟩ = some (.int .u64 (smo : Int)) := r9.cell 7
    have d8 : w9.cell? ⟨g, 8, none⟩ = some (.int .u64 (var : Int)) := r9.cell 8
    have d9 : w9.cell? ⟨g, 9, none⟩ = some (.int .u64 (lea : Int)) := r9.cell 9
    have d10 : w9.cell? ⟨g, 10, none⟩ = some (.bool true) := r9.cell 10
    have g6 := r9.frozen 6
    have g7 := r9.frozen 7
    have g8 := r9.frozen 8
    have g9 := r9.frozen 9
    have g10 := r9.frozen 10
    have R9 := veil r9
    clear r9 hb9 c6 c7 c8 c9 c10 f6 f7 f8 f9 f10
    go_wp2
    refine bodyPost_end (results_none rfl _ _ _) rfl ?_
    refine ⟨⟨_, rfl⟩, ?_, ?_⟩
    · exact ((((R9.out.set 6 (.int .u64 (latest : Int))).set 7 (.int .u64 (S1 : Int))).set 8 (.int .u64 (V1 : Int))).set 9 (.int .u64 (L1 : Int))).set 10 (.bool true)
    · exact K9.out.trans (((((keepG g _ _ _).trans (keepG g _ _ _)).trans (keepG g _ _ _)).trans (keepG g _ _ _)).trans (keepG g _ _ _))
def growN (m : ML) (size : Nat) : Nat := if m.shr = true ∧ m.thr ≤ m.win then m.win + 1200 * size / m.win else m.win + size
set_option maxRecDepth 20000 in
set_option maxHeartbeats 1000000 in
theorem grow_any (g : Nat) (v : Value) (m : ML) (size : Nat) (w : World) (h : Row w g 51 (mlC v m)) (h1 : 1 ≤ m.win) (h2 : m.win ≤ 3000000) (h3 : size ≤ 1200) (h4 : m.thr ≤ 3000000) :
    Calls Try.prog 34 #[.pointer (some ⟨g, 0, none⟩), .int .i64 (size : Int)] w fun e w' => (∃ u, e = .returned u) ∧ Row w' g 51 (mlC v { m with win := growN m size }) ∧ KeepP (fun k => k = g) w w' := by
  obtain ⟨way, ask, next, asked, now, front, lat, smo, var, lea, meas, win, shr, thr, mom⟩ := m
  simp only at h1 h2 h4
  have c := row_cells h
  obtain ⟨c0, c1, c2, c3, c4, c5, c6, c7, c8, c9, c10, c11, c12, c13, c14, f⟩ := c
  simp only at c11 c12 c13
  have f11 := f 11
  have H := veil h
  have hq : 1200 * size / win ≤ 1200 * size := Nat.div_le_self _ _
  obtain ⟨q, hqq⟩ : ∃ q, 1200 * size / win = q := ⟨_, rfl⟩
  rw [hqq] at hq
  obtain ⟨z1, hz1⟩ : ∃ z1, win + q = z1 := ⟨_, rfl⟩
  obtain ⟨z2, hz2⟩ : ∃ z2, win + size = z2 := ⟨_, rfl⟩
  have e0 : IntKind.i64.wrap (1200 * (size : Int)) = 1200 * (size : Int) := by rw [IntKind.wrap_i64]; omega
  have e1 : Int.tdiv (1200 * (size : Int)) (win : Int) = (q : Int) := by
    rw [Int.tdiv_eq_ediv_of_nonneg (by omega), ← hqq, Int.natCast_ediv]
    rfl
  have e2 : IntKind.i64.wrap (q : Int) = (q : Int) := by rw [IntKind.wrap_i64]; omega
  have e3 : IntKind.i64.wrap ((win : Int) + (q : Int)) = (z1 : Int) := by rw [IntKind.wrap_i64]; omega
  have e4 : IntKind.i64.wrap ((win : Int) + (size : Int)) = (z2 : Int) := by rw [IntKind.wrap_i64]; omega
  have e5 : ¬ (win : Int) = 0 := by omega
  have e6 : ¬ win = 0 := by omega
  have tail : ∀ (z : Nat) (W : World), Below w.heap.size w W → Row (W.setCell ⟨g, 11, none⟩ (.int .i64 (z : Int))) g 51 (mlC v ⟨way, ask, next, asked, now, front, lat, smo, var, lea, meas, z, shr, thr, mom⟩) ∧ KeepP (fun k => k = g) w (W.setCell ⟨g, 11, none⟩ (.int .i64 (z : Int))) := fun z W hW => ⟨(h.below hW h.lt).set 11 _, (KeepP.of_below (st := fun k => k = g) hW).trans (KeepP.setCell (st := fun k => k = g) rfl _ _ _)⟩
  have T := veil tail
  clear tail
  clear c0 c1 c2 c3 c4 c5 c6 c7 c8 c9 c10 c14 f h hq h1 h2 h3 h4
  cases shr
  · have hG : growN ⟨way, ask, next, asked, now, front, lat, smo, var, lea, meas, win, false, thr, mom⟩ size = z2 := by rw [← hz2]; rfl
    rw [hG]
    clear hG hz1 hz2 hqq
    go_enter Try.func34, Try.ntmps34
    go_wp2
    go_quiet (fail)
    go_wp2
    refine bodyPost_end (results_none rfl _ _ _) rfl ?_
    exact ⟨⟨_, rfl⟩, T.out z2 _ (below_drewN (Below.refl _ _) _)⟩
  · by_cases ht : thr ≤ win
    · have hG : growN ⟨way, ask, next, asked, now, front, lat, smo, var, lea, meas, win, true, thr, mom⟩ size = z1 := by rw [← hz1, ← hqq]; exact if_pos ⟨rfl, ht⟩
      rw [hG]
      have t1 : decide ((thr : Int) ≤ (win : Int)) = true := by simp; omega
      have t2 : decide (thr ≤ win) = true := by simp; omega
      clear hG hz1 hz2 hqq ht
      go_enter Try.func34, Try.ntmps34
      go_wp2
      go_quiet (fail)
      go_wp2
      refine bodyPost_end (results_none rfl _ _ _) rfl ?_
      exact ⟨⟨_, rfl⟩, T.out z1 _ (below_drewN (Below.refl _ _) _)⟩
    · have hG : growN ⟨way, ask, next, asked, now, front, lat, smo, var, lea, meas, win, true, thr, mom⟩ size = z2 := by rw [← hz2]; exact if_neg (fun q => ht q.2)
      rw [hG]
      have t1 : decide ((thr : Int) ≤ (win : Int)) = false := by simp; omega
      have t2 : decide (thr ≤ win) = false := by simp; omega
      clear hG hz1 hz2 hqq ht
      go_enter Try.func34, Try.ntmps34
      go_wp2
      go_quiet (fail)
      go_wp2
      refine bodyPost_end (results_none rfl _ _ _) rfl ?_
      exact ⟨⟨_, rfl⟩, T.out z2 _ (below_drewN (Below.refl _ _) _)⟩
def shrinkM (m : ML) : ML := { m with shr := true, mom := m.now, thr := m.win / 2, win := max (m.win / 2) 2400 }
set_option maxRecDepth 20000 in
set_option maxHeartbeats 1000000 in
theorem shrink_any (g : Nat) (v : Value) (m : ML) (w : World) (h : Row w g 51 (mlC v m)) (h2 : m.win ≤ 3000000) :
    Calls Try.prog 36 #[.pointer (some ⟨g, 0, none⟩)] w fun e w' => (∃ u, e = .returned u) ∧ Row w' g 51 (mlC v (shrinkM m)) ∧ KeepP (fun k => k = g) w w' := by
  obtain ⟨way, ask, next, asked, now, front, lat, smo, var, lea, meas, win, shr, thr, mom⟩ := m
  simp only at h2
  have c := row_cells h
  obtain ⟨c0, c1, c2, c3, c4, c5, c6, c7, c8, c9, c10, c11, c12, c13, c14, f⟩ := c
  simp only at c4 c11 c12 c13 c14
  have f11 := f 11
  have f12 := f 12
  have f13 := f 13
  have f14 := f 14
  have H := veil h
  obtain ⟨q, hqq⟩ : ∃ q, win / 2 = q := ⟨_, rfl⟩
  obtain ⟨z, hz⟩ : ∃ z, max q 2400 = z := ⟨_, rfl⟩
  have e1 : Int.tdiv (win : Int) 2 = (q : Int) := by rw [Int.tdiv_eq_ediv_of_nonneg (by omega)]; omega
  have e2 : IntKind.i64.wrap (q : Int) = (q : Int) := by rw [IntKind.wrap_i64]; omega
  have e3 : max (q : Int) 2400 = (z : Int) := by omega
  have hM : shrinkM ⟨way, ask, next, asked, now, front, lat, smo, var, lea, meas, win, shr, thr, mom⟩ = ⟨way, ask, next, asked, now, front, lat, smo, var, lea, meas, z, true, q, now⟩ := by rw [← hz, ← hqq]; rfl
  rw [hM]
  clear hM hz hqq c0 c1 c2 c3 c5 c6 c7 c8 c9 c10 f h h2
  go_enter Try.func36, Try.ntmps36
  go_wp2
  refine bodyPost_end (results_none rfl _ _ _) rfl ?_
  refine ⟨⟨_, rfl⟩, ?_, ?_⟩
  · exact ((((H.out.set 12 (.bool true)).set 14 (.int .u64 (now : Int))).set 13 (.int .i64 (q : Int))).set 11 (.int .i64 (z : Int)))
  · exact ((((keepG g _ _ _).trans (keepG g _ _ _)).trans (keepG g _ _ _)).trans (keepG g _ _ _))
def countsB (m : ML) (p : Lg.Pk) : Bool := p.asks && (!m.shr || decide (m.mom < p.time))
set_option maxRecDepth 20000 in
set_option maxHeartbeats 1000000 in
theorem counts_any (g : Nat) (v : Value) (m : ML) (p : Lg.Pk) (w : World) (h : Row w g 51 (mlC v m)) :
    Calls Try.prog 33 #[.pointer (some ⟨g, 0, none⟩), .agg (pkC p)] w fun e w' => e = .returned (.bool (countsB m p)) ∧ Below w.heap.size w w' := by
  obtain ⟨way, ask, next, asked, now, front, lat, smo, var, lea, meas, win, shr, thr, mom⟩ := m
  obtain ⟨num, size, time, asks⟩ := p
  have h' := h.below ((Below.refl _ w).alloc (Nat.le_refl _) (.cells #[.int .u64 (num : Int), .int .i64 (size : Int), .int .u64 (time : Int), .bool asks] 55)) h.lt
  have c := row_cells h'
  obtain ⟨c0, c1, c2, c3, c4, c5, c6, c7, c8, c9, c10, c11, c12, c13, c14, f⟩ := c
  simp only at c12 c14
  have B := veil ((Below.refl _ w).alloc (Nat.le_refl _) (.cells #[.int .u64 (num : Int), .int .i64 (size : Int), .int .u64 (time : Int), .bool asks] 55))
  clear c0 c1 c2 c3 c4 c5 c6 c7 c8 c9 c10 c11 c13 f h h'
  obtain ⟨b, hb⟩ : ∃ b, decide (mom < time) = b := ⟨_, rfl⟩
  have e1 : decide ((mom : Int) < (time : Int)) = b := by rw [← hb]; simp
  have hC : countsB ⟨way, ask, next, asked, now, front, lat, smo, var, lea, meas, win, shr, thr, mom⟩ ⟨num, size, time, asks⟩ = (asks && (!shr || b)) := by rw [← hb]; rfl
  rw [hC]
  clear hC
  unfold pkC
  cases asks
  · go_enter Try.func33, Try.ntmps33
    go_wp2
    go_quiet (fail)
    go_wp2
    go_ret
    exact ⟨rfl, below_drewN B.out _⟩
  · cases shr
    · go_enter Try.func33, Try.ntmps33
      go_wp2
      go_quiet (fail)
      go_wp2
      go_ret
      exact ⟨rfl, below_drewN B.out _⟩
    · cases b
      · go_enter Try.func33, Try.ntmps33
        go_wp2
        go_quiet (fail)
        go_wp2
        go_ret
        exact ⟨rfl, below_drewN B.out _⟩
      · go_enter Try.func33, Try.ntmps33
        go_wp2
        go_quiet (fail)
        go_wp2
        go_ret
        exact ⟨rfl, below_drewN B.out _⟩
end Go.Proofs.Ytohoieleakieeaa
