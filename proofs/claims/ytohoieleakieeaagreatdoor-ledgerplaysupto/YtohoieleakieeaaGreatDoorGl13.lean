/-
  Out of LgStep, LgPut, LgSent.
-/
import Derived.Test.YtohoieleakieeaaGreatDoorGlLgWith
import Derived.Test.YtohoieleakieeaaGreatDoorGl4
import Derived.BigQuiet

/-! Small steps of a ledger: measure, grow, shrink. -/
namespace Go.Proofs.YtohoieleakieeaaGreatDoor
open Go Go.RowKit

theorem keepG (g : Nat) (W : World) (o : Nat) (v : Value) : KeepP (fun k => k = g) W (W.setCell ⟨g, o, none⟩ v) := KeepP.setCell (st := fun k => k = g) rfl W o v
def measM (m : ML) (latest delay : Nat) : ML :=
  if m.meas then { m with lat := latest, smo := withS m.smo (withA m.lea latest delay), var := withV m.smo m.var (withA m.lea latest delay), lea := min m.lea latest, meas := true }
  else { m with lat := latest, smo := latest, var := latest / 2, lea := latest, meas := true }
set_option maxRecDepth 20000 in
set_option maxHeartbeats 1000000 in
theorem measure_any (g : Nat) (v : Value) (m : ML) (latest delay : Nat) (w : World) (h : Row w g 70 (mlC v m)) (h1 : m.smo ≤ 1099511627775) (h2 : m.var ≤ 1099511627775) (h3 : m.lea ≤ 1099511627775) (h4 : latest ≤ 1099511627775) (h5 : delay ≤ 1099511627775) :
    Calls Tryz.prog 90 #[.pointer (some ⟨g, 0, none⟩), .int .u64 (latest : Int), .int .u64 (delay : Int)] w fun e w' => (∃ u, e = .returned u) ∧ Row w' g 70 (mlC v (measM m latest delay)) ∧ KeepP (fun k => k = g) w w' := by
  obtain ⟨way, ask, next, asked, now, front, lat, smo, var, lea, meas, win, shr, thr, mom⟩ := m
  simp only at h1 h2 h3
  have c := row_cells h
  obtain ⟨c0, c1, c2, c3, c4, c5, c6, c7, c8, c9, c10, c11, c12, c13, c14, f⟩ := c
  simp only at c6 c7 c8 c9 c10
  have f6 := f 6
  have f7 := f 7
  have f8 := f 8
  have f9 := f 9
  have f10 := f 10
  have H := veil h
  have WC := veil (fun w => with_any lat smo var lea latest delay w h1 h2 h3 h4 h5)
  obtain ⟨z, hz⟩ : ∃ z, latest / 2 = z := ⟨_, rfl⟩
  have e1 : Int.tdiv (latest : Int) 2 = (z : Int) := by rw [Int.tdiv_eq_ediv_of_nonneg (by omega)]; omega
  have e2 : IntKind.u64.wrap (z : Int) = (z : Int) := by rw [IntKind.wrap_u64]; omega
  clear c0 c1 c2 c3 c4 c5 c11 c12 c13 c14 f h h1 h2 h3 h4 h5
  cases meas
  · have hM : measM ⟨way, ask, next, asked, now, front, lat, smo, var, lea, false, win, shr, thr, mom⟩ latest delay = ⟨way, ask, next, asked, now, front, latest, latest, z, latest, true, win, shr, thr, mom⟩ := by rw [← hz]; rfl
    rw [hM]
    clear hM hz WC
    go_enter Tryz.func90, Tryz.ntmps90
    go_wp2
    refine bodyPost_end (results_none rfl _ _ _) rfl ?_
    refine ⟨⟨_, rfl⟩, ?_, ?_⟩
    · exact ((((H.out.set 6 (.int .u64 (latest : Int))).set 7 (.int .u64 (latest : Int))).set 8 (.int .u64 (z : Int))).set 9 (.int .u64 (latest : Int))).set 10 (.bool true)
    · exact (((((keepG g _ _ _).trans (keepG g _ _ _)).trans (keepG g _ _ _)).trans (keepG g _ _ _)).trans (keepG g _ _ _))
  · obtain ⟨A, hA⟩ : ∃ A, withA lea latest delay = A := ⟨_, rfl⟩
    obtain ⟨S1, hS1⟩ : ∃ S1, withS smo A = S1 := ⟨_, rfl⟩
    obtain ⟨V1, hV1⟩ : ∃ V1, withV smo var A = V1 := ⟨_, rfl⟩
    obtain ⟨L1, hL1⟩ : ∃ L1, min lea latest = L1 := ⟨_, rfl⟩
    have hM : measM ⟨way, ask, next, asked, now, front, lat, smo, var, lea, true, win, shr, thr, mom⟩ latest delay = ⟨way, ask, next, asked, now, front, latest, S1, V1, L1, true, win, shr, thr, mom⟩ := by rw [← hS1, ← hV1, ← hL1, ← hA]; rfl
    rw [hM]
    rw [hA, hS1, hV1, hL1] at WC
    unfold tmC at WC
    clear hM hA hS1 hV1 hL1 e1 e2 hz
    go_enter Tryz.func90, Tryz.ntmps90
    go_wp2_with fail
    refine (WC.out _).mono ?_
    rintro e9 w9 ⟨rfl, hb9⟩
    have r9 := H.out.below hb9 H.out.lt
    have K9 := veil (KeepP.of_below (st := fun k => k = g) hb9)
    have d6 : w9.cell? ⟨g, 6, none⟩ = some (.int .u64 (lat : Int)) := r9.cell 6
    have d7 : w9.cell? ⟨g, 7, none⟩ = some (.int .u64 (smo : Int)) := r9.cell 7
    have d8 : w9.cell? ⟨g, 8, none⟩ = some (.int .u64 (var : Int)) := r9.cell 8
    have d9 : w9.cell? ⟨g, 9, none⟩ = some (.int .u64 (lea : Int)) := r9.cell 9
    have d10 : w9.cell? ⟨g, 10, none⟩ = some (.bool true) := r9.cell 10
    have g6 := r9.frozen 6
    have g7 := r9.frozen 7
    have g8 := r9.frozen 8
    have g9 := r9.frozen 9
    have g10 := r9.frozen 10
    have R9 := veil r9
    clear r9 hb9 c6 c7 c8 c9 c10 f6 f7 f8 f9 f10
    go_wp2
    refine bodyPost_end (results_none rfl _ _ _) rfl ?_
    refine ⟨⟨_, rfl⟩, ?_, ?_⟩
    · exact ((((R9.out.set 6 (.int .u64 (latest : Int))).set 7 (.int .u64 (S1 : Int))).set 8 (.int .u64 (V1 : Int))).set 9 (.int .u64 (L1 : Int))).set 10 (.bool true)
    · exact K9.out.trans (((((keepG g _ _ _).trans (keepG g _ _ _)).trans (keepG g _ _ _)).trans (keepG g _ _ _)).trans (keepG g _ _ _))
def growN (m : ML) (size : Nat) : Nat := if m.shr = true ∧ m.thr ≤ m.win then m.win + 1200 * size / m.win else m.win + size
set_option maxRecDepth 20000 in
set_option maxHeartbeats 1000000 in
theorem grow_any (g : Nat) (v : Value) (m : ML) (size : Nat) (w : World) (h : Row w g 70 (mlC v m)) (h1 : 1 ≤ m.win) (h2 : m.win ≤ 3000000) (h3 : size ≤ 1200) (h4 : m.thr ≤ 3000000) :
    Calls Tryz.prog 92 #[.pointer (some ⟨g, 0, none⟩), .int .i64 (size : Int)] w fun e w' => (∃ u, e = .returned u) ∧ Row w' g 70 (mlC v { m with win := growN m size }) ∧ KeepP (fun k => k = g) w w' := by
  obtain ⟨way, ask, next, asked, now, front, lat, smo, var, lea, meas, win, shr, thr, mom⟩ := m
  simp only at h1 h2 h4
  have c := row_cells h
  obtain ⟨c0, c1, c2, c3, c4, c5, c6, c7, c8, c9, c10, c11, c12, c13, c14, f⟩ := c
  simp only at c11 c12 c13
  have f11 := f 11
  have H := veil h
  have hq : 1200 * size / win ≤ 1200 * size := Nat.div_le_self _ _
  obtain ⟨q, hqq⟩ : ∃ q, 1200 * size / win = q := ⟨_, rfl⟩
  rw [hqq] at hq
  obtain ⟨z1, hz1⟩ : ∃ z1, win + q = z1 := ⟨_, rfl⟩
  obtain ⟨z2, hz2⟩ : ∃ z2, win + size = z2 := ⟨_, rfl⟩
  have e0 : IntKind.i64.wrap (1200 * (size : Int)) = 1200 * (size : Int) := by rw [IntKind.wrap_i64]; omega
  have e1 : Int.tdiv (1200 * (size : Int)) (win : Int) = (q : Int) := by
    rw [Int.tdiv_eq_ediv_of_nonneg (by omega), ← hqq, Int.natCast_ediv]
    rfl
  have e2 : IntKind.i64.wrap (q : Int) = (q : Int) := by rw [IntKind.wrap_i64]; omega
  have e3 : IntKind.i64.wrap ((win : Int) + (q : Int)) = (z1 : Int) := by rw [IntKind.wrap_i64]; omega
  have e4 : IntKind.i64.wrap ((win : Int) + (size : Int)) = (z2 : Int) := by rw [IntKind.wrap_i64]; omega
  have e5 : ¬ (win : Int) = 0 := by omega
  have e6 : ¬ win = 0 := by omega
  have tail : ∀ (z : Nat) (W : World), Below w.heap.size w W → Row (W.setCell ⟨g, 11, none⟩ (.int .i64 (z : Int))) g 70 (mlC v ⟨way, ask, next, asked, now, front, lat, smo, var, lea, meas, z, shr, thr, mom⟩) ∧ KeepP (fun k => k = g) w (W.setCell ⟨g, 11, none⟩ (.int .i64 (z : Int))) := fun z W hW => ⟨(h.below hW h.lt).set 11 _, (KeepP.of_below (st := fun k => k = g) hW).trans (KeepP.setCell (st := fun k => k = g) rfl _ _ _)⟩
  have T := veil tail
  clear tail
  clear c0 c1 c2 c3 c4 c5 c6 c7 c8 c9 c10 c14 f h hq h1 h2 h3 h4
  cases shr
  · have hG : growN ⟨way, ask, next, asked, now, front, lat, smo, var, lea, meas, win, false, thr, mom⟩ size = z2 := by rw [← hz2]; rfl
    rw [hG]
    clear hG hz1 hz2 hqq
    go_enter Tryz.func92, Tryz.ntmps92
    go_wp2
    go_quiet (fail)
    go_wp2
    refine bodyPost_end (results_none rfl _ _ _) rfl ?_
    exact ⟨⟨_, rfl⟩, T.out z2 _ (below_drewN (Below.refl _ _) _)⟩
  · by_cases ht : thr ≤ win
    · have hG : growN ⟨way, ask, next, asked, now, front, lat, smo, var, lea, meas, win, true, thr, mom⟩ size = z1 := by rw [← hz1, ← hqq]; exact if_pos ⟨rfl, ht⟩
      rw [hG]
      have t1 : decide ((thr : Int) ≤ (win : Int)) = true := by simp; omega
      have t2 : decide (thr ≤ win) = true := by simp; omega
      clear hG hz1 hz2 hqq ht
      go_enter Tryz.func92, Tryz.ntmps92
      go_wp2
      go_quiet (fail)
      go_wp2
      refine bodyPost_end (results_none rfl _ _ _) rfl ?_
      exact ⟨⟨_, rfl⟩, T.out z1 _ (below_drewN (Below.refl _ _) _)⟩
    · have hG : growN ⟨way, ask, next, asked, now, front, lat, smo, var, lea, meas, win, true, thr, mom⟩ size = z2 := by rw [← hz2]; exact if_neg (fun q => ht q.2)
      rw [hG]
      have t1 : decide ((thr : Int) ≤ (win : Int)) = false := by simp; omega
      have t2 : decide (thr ≤ win) = false := by simp; omega
      clear hG hz1 hz2 hqq ht
      go_enter Tryz.func92, Tryz.ntmps92
      go_wp2
      go_quiet (fail)
      go_wp2
      refine bodyPost_end (results_none rfl _ _ _) rfl ?_
      exact ⟨⟨_, rfl⟩, T.out z2 _ (below_drewN (Below.refl _ _) _)⟩
def shrinkM (m : ML) : ML := { m with shr := true, mom := m.now, thr := m.win / 2, win := max (m.win / 2) 2400 }
set_option maxRecDepth 20000 in
set_option maxHeartbeats 1000000 in
theorem shrink_any (g : Nat) (v : Value) (m : ML) (w : World) (h : Row w g 70 (mlC v m)) (h2 : m.win ≤ 3000000) :
    Calls Tryz.prog 94 #[.pointer (some ⟨g, 0, none⟩)] w fun e w' => (∃ u, e = .returned u) ∧ Row w' g 70 (mlC v (shrinkM m)) ∧ KeepP (fun k => k = g) w w' := by
  obtain ⟨way, ask, next, asked, now, front, lat, smo, var, lea, meas, win, shr, thr, mom⟩ := m
  simp only at h2
  have c := row_cells h
  obtain ⟨c0, c1, c2, c3, c4, c5, c6, c7, c8, c9, c10, c11, c12, c13, c14, f⟩ := c
  simp only at c4 c11 c12 c13 c14
  have f11 := f 11
  have f12 := f 12
  have f13 := f 13
  have f14 := f 14
  have H := veil h
  obtain ⟨q, hqq⟩ : ∃ q, win / 2 = q := ⟨_, rfl⟩
  obtain ⟨z, hz⟩ : ∃ z, max q 2400 = z := ⟨_, rfl⟩
  have e1 : Int.tdiv (win : Int) 2 = (q : Int) := by rw [Int.tdiv_eq_ediv_of_nonneg (by omega)]; omega
  have e2 : IntKind.i64.wrap (q : Int) = (q : Int) := by rw [IntKind.wrap_i64]; omega
  have e3 : max (q : Int) 2400 = (z : Int) := by omega
  have hM : shrinkM ⟨way, ask, next, asked, now, front, lat, smo, var, lea, meas, win, shr, thr, mom⟩ = ⟨way, ask, next, asked, now, front, lat, smo, var, lea, meas, z, true, q, now⟩ := by rw [← hz, ← hqq]; rfl
  rw [hM]
  clear hM hz hqq c0 c1 c2 c3 c5 c6 c7 c8 c9 c10 f h h2
  go_enter Tryz.func94, Tryz.ntmps94
  go_wp2
  refine bodyPost_end (results_none rfl _ _ _) rfl ?_
  refine ⟨⟨_, rfl⟩, ?_, ?_⟩
  · exact ((((H.out.set 12 (.bool true)).set 14 (.int .u64 (now : Int))).set 13 (.int .i64 (q : Int))).set 11 (.int .i64 (z : Int)))
  · exact ((((keepG g _ _ _).trans (keepG g _ _ _)).trans (keepG g _ _ _)).trans (keepG g _ _ _))
def countsB (m : ML) (p : Lg.Pk) : Bool := p.asks && (!m.shr || decide (m.mom < p.time))
set_option maxRecDepth 20000 in
set_option maxHeartbeats 1000000 in
theorem counts_any (g : Nat) (v : Value) (m : ML) (p : Lg.Pk) (w : World) (h : Row w g 70 (mlC v m)) :
    Calls Tryz.prog 91 #[.pointer (some ⟨g, 0, none⟩), .agg (pkC p)] w fun e w' => e = .returned (.bool (countsB m p)) ∧ Below w.heap.size w w' := by
  obtain ⟨way, ask, next, asked, now, front, lat, smo, var, lea, meas, win, shr, thr, mom⟩ := m
  obtain ⟨num, size, time, asks⟩ := p
  have h' := h.below ((Below.refl _ w).alloc (Nat.le_refl _) (.cells #[.int .u64 (num : Int), .int .i64 (size : Int), .int .u64 (time : Int), .bool asks] 78)) h.lt
  have c := row_cells h'
  obtain ⟨c0, c1, c2, c3, c4, c5, c6, c7, c8, c9, c10, c11, c12, c13, c14, f⟩ := c
  simp only at c12 c14
  have B := veil ((Below.refl _ w).alloc (Nat.le_refl _) (.cells #[.int .u64 (num : Int), .int .i64 (size : Int), .int .u64 (time : Int), .bool asks] 78))
  clear c0 c1 c2 c3 c4 c5 c6 c7 c8 c9 c10 c11 c13 f h h'
  obtain ⟨b, hb⟩ : ∃ b, decide (mom < time) = b := ⟨_, rfl⟩
  have e1 : decide ((mom : Int) < (time : Int)) = b := by rw [← hb]; simp
  have hC : countsB ⟨way, ask, next, asked, now, front, lat, smo, var, lea, meas, win, shr, thr, mom⟩ ⟨num, size, time, asks⟩ = (asks && (!shr || b)) := by rw [← hb]; rfl
  rw [hC]
  clear hC
  unfold pkC
  cases asks
  · go_enter Tryz.func91, Tryz.ntmps91
    go_wp2
    go_quiet (fail)
    go_wp2
    go_ret
    exact ⟨rfl, below_drewN B.out _⟩
  · cases shr
    · go_enter Tryz.func91, Tryz.ntmps91
      go_wp2
      go_quiet (fail)
      go_wp2
      go_ret
      exact ⟨rfl, below_drewN B.out _⟩
    · cases b
      · go_enter Tryz.func91, Tryz.ntmps91
        go_wp2
        go_quiet (fail)
        go_wp2
        go_ret
        exact ⟨rfl, below_drewN B.out _⟩
      · go_enter Tryz.func91, Tryz.ntmps91
        go_wp2
        go_quiet (fail)
        go_wp2
        go_ret
        exact ⟨rfl, below_drewN B.out _⟩
end Go.Proofs.YtohoieleakieeaaGreatDoor

/-! Written by mklgput.py: a packet is put on its way. -/
namespace Go.Proofs.YtohoieleakieeaaGreatDoor
open Go Go.RowKit

def KeepL (g : Nat) (v : Value) (W W' : World) : Prop := KeepP (fun k => k = g ∨ v.ownBlock = some k) W W'
theorem Tryz.infoPk : (Tryz.prog.info? 78).map (fun i => (i.zero, i.size, i.bytes)) = some (some (.agg (pkC ⟨0, 0, 0, false⟩)), 4, 32) := by kernel_rfl
theorem pk_info : ∃ i0, Tryz.prog.info? 78 = some i0 ∧ i0.zero = some (.agg (pkC ⟨0, 0, 0, false⟩)) ∧ i0.size = 4 ∧ i0.bytes = 32 := by
  have h := Tryz.infoPk
  cases hq : Tryz.prog.info? 78 with
  | none => rw [hq] at h; cases h
  | some i =>
    rw [hq] at h
    simp only [Option.map_some, Option.some.injEq, Prod.mk.injEq] at h
    exact ⟨i, rfl, h.1, h.2.1, h.2.2⟩
theorem pk_append (w : World) (ty : TypeId) (v : Value) (l : List Lg.Pk) (p : Lg.Pk) (b : Nat) (h : RowO w 78 4 v l.length (vp l)) (hr : Row w b 78 (pkC p)) (hl : l.length ≤ 100000) :
    ∃ v' w', (Builtin.append_ #[68, 68] ty #[v, .slice (some ⟨b, 0, none⟩) 1 1]).run Tryz.prog w = .ok v' w' ∧ RowO w' 78 4 v' (l ++ [p]).length (vp (l ++ [p])) ∧
      (v'.ownBlock = v.ownBlock ∧ v.ownBlock ≠ none ∧ w.grownBy w' v.ownBlock ∨ w.grownBy w' none ∧ (∀ k, v'.ownBlock = some k → k = w.heap.size)) := by
  obtain ⟨i0, h1, h2, h3, h4⟩ := pk_info
  rw [List.length_append, List.length_singleton, vp_append]
  refine run_append_O (P := Tryz.prog) w 68 ty 78 i0 _ 4 32 Tryz.underlying68 h1 h2 h3 h4 rfl (by decide) v l.length (vp l) h ⟨b, 0, none⟩ 1 1 (vp [p]) rfl ?_ (vp_one _) (by unfold maxLen; omega) (by omega)
  intro j u hu
  rw [Addr.add_mid, Nat.zero_add]
  have : (vp [p])[j]? = (pkC p)[j]? := by
    match j with
    | 0 => rfl
    | 1 => rfl
    | 2 => rfl
    | 3 => rfl
    | j + 4 => simp [vp, pkC]
  rw [this] at hu
  rw [← hu]
  exact cell_of_row w b j _ _ (0, 0) hr
theorem keepL_of {v : Value} {A B : World} (h : v.ownBlock ≠ none ∧ A.grownBy B v.ownBlock ∨ A.grownBy B none) : KeepP (fun k => v.ownBlock = some k) A B := by
  rcases h with ⟨_, h⟩ | h
  · exact ⟨h.os, h.tape, h.output, h.size, fun k hk hs => h.block k hk (fun e => hs e.symm)⟩
  · exact ⟨h.os, h.tape, h.output, h.size, fun k hk _ => h.block k hk (by simp)⟩
def depPu : Nat → List Nat
  | 0 => []
  | 1 => []
  | 2 => [1]
  | 3 => [2]
  | 4 => [3]
  | 5 => []
  | 6 => [5]
  | 7 => [4, 6]
  | 8 => [0]
  | 9 => [8]
  | 10 => [9, 7]
  | _ => []
def dclPu : Nat → List Nat
  | 6 => [5]
  | 7 => [4]
  | 10 => []
  | _ => []
def valPu (g : Nat) (v : Value) (p : Lg.Pk) : Nat → Value
  | 0 => .pointer (some ⟨g, 0, none⟩)
  | 1 => .pointer (some ⟨g, 0, none⟩)
  | 2 => .pointer (some ⟨g, 0, none⟩)
  | 3 => .pointer (some ⟨g, 0, none⟩)
  | 4 => v
  | 5 => .agg (pkC p)
  | 8 => .pointer (some ⟨g, 0, none⟩)
  | 9 => .pointer (some ⟨g, 0, none⟩)
  | _ => undef
def RPu (q : World) (g : Nat) (v : Value) (m : ML) (p : Lg.Pk) : Nat → World → Value → Prop
  | 0, W, _ => W = q
  | 1, W, u => W = q.alloc (.cells (pkC p) 78) ∧ u = .slice (some ⟨q.heap.size, 0, none⟩) 1 1
  | 2, W, u => Row W g 70 (mlC v m) ∧ RowO W 78 4 u (m.way ++ [p]).length (vp (m.way ++ [p])) ∧ KeepP (fun k => v.ownBlock = some k) q W ∧ (∀ k, u.ownBlock = some k → v.ownBlock = some k ∨ q.heap.size ≤ k)
  | _, W, _ => ∃ v', LdOk W g v' { m with way := m.way ++ [p] } ∧ KeepL g v q W ∧ (∀ k, v'.ownBlock = some k → v.ownBlock = some k ∨ q.heap.size ≤ k)
theorem RPu.zero {q : World} {g : Nat} {v : Value} {m : ML} {p : Lg.Pk} {k : Nat} {W : World} {u : Value} (h : RPu q g v m p k W u) (hk : k ≤ 0) : W = q := by
  obtain rfl : k = 0 := by omega
  exact h
theorem RPu.one {q : World} {g : Nat} {v : Value} {m : ML} {p : Lg.Pk} {k : Nat} {W : World} {u : Value} (h : RPu q g v m p k W u) (hk : k ≤ 1) : Below q.heap.size q W := by
  match k, h with
  | 0, h => exact (show W = q from h) ▸ Below.refl _ _
  | 1, h => rw [h.1]; exact (Below.refl _ _).alloc (Nat.le_refl _) _
  | _ + 2, _ => omega
set_option maxRecDepth 20000 in
set_option maxHeartbeats 1000000 in
theorem put_any (g : Nat) (v : Value) (m : ML) (p : Lg.Pk) (w : World) (h : LdOk w g v m) (hl : m.way.length ≤ 2000) (ha : m.ask ≤ 3000000) (hp : p.size ≤ 1200) :
    Calls Tryz.prog 26 #[.pointer (some ⟨g, 0, none⟩), .agg (pkC p)] w fun e w' => (∃ u, e = .returned u) ∧ ∃ v', LdOk w' g v' { m with way := m.way ++ [p], ask := if p.asks then m.ask + p.size else m.ask } ∧ KeepL g v w w' ∧ (∀ k, v'.ownBlock = some k → v.ownBlock = some k ∨ w.heap.size ≤ k) := by
  obtain ⟨A, hA⟩ : ∃ A, (if p.asks then m.ask + p.size else m.ask) = A := ⟨_, rfl⟩
  rw [hA]
  have HA := veil hA
  clear hA
  have hb0 : Below w.heap.size w (w.alloc (.cells (pkC p) 78)) := (Below.refl _ w).alloc (Nat.le_refl _) _
  have hq := h.below hb0
  have hbx : Row (w.alloc (.cells (pkC p) 78)) w.heap.size 78 (pkC p) := Row.new _ _ _
  have hsz : w.heap.size + 1 = (w.alloc (.cells (pkC p) 78)).heap.size := by simp
  go_enter Tryz.func26, Tryz.ntmps26
  go_wp2_with fail
  generalize w.alloc (.cells (pkC p) 78) = q0 at *
  have HB0 := veil hb0
  have HW := veil (h.way.lt)
  have HG := veil h.lt
  replace hq : LdOk q0.drew g v m := hq.below ((Below.refl _ q0).drew)
  replace hbx : Row q0.drew w.heap.size 78 (pkC p) := hbx
  replace hsz : w.heap.size + 1 = q0.drew.heap.size := hsz
  have HBX := veil hbx
  have HQ := veil hq
  have HS := veil hsz
  have c0 := hq.cells.c0
  clear h hb0 hq hbx hsz
  refine (wpIn_wide (n := 4)).1 ?_
  refine wpIn_region_any (by kernel_rfl) ?_
  refine anyIn_spine (valPu g v p) (RPu q0.drew g v m p) undef [6, 7, 10] [4, 5, 6, 7, 8, 9, 10, 11, 12, 13, 100000] depPu dclPu (by kernel_rfl) (by decide) rfl (by decide) (by decide) ?ord (by decide) ?h0 ?fix ?cal ?don
  case ord =>
    intro k i j h1 h2
    match k, h1, h2 with
    | 0, h1, h2 =>
      obtain rfl := Option.some.inj h1
      obtain rfl := Option.some.inj h2
      decide
    | 1, h1, h2 =>
      obtain rfl := Option.some.inj h1
      obtain rfl := Option.some.inj h2
      decide
    | 2, _, h2 => simp at h2
    | _ + 3, h1, _ => simp at h1
  case fix =>
    intro x W4 m2 ii d u hR hdi hni hdep hlo hhi
    match ii, hdi, hni, hdep, hhi with
    | 0, hdi, _, _, _ =>
      obtain rfl := Option.some.inj hdi
      exact OI_value rfl rfl (about_none (by intro c h; cases h)) (by intro c h; cases h) (.pointer (some ⟨g, 0, none⟩)) W4 (by kernel_rfl) ⟨rfl, rfl⟩
    | 1, hdi, _, _, _ =>
      obtain rfl := Option.some.inj hdi
      exact OI_value rfl rfl (about_none (by intro c h; cases h)) (by intro c h; cases h) (.pointer (some ⟨g, 0, none⟩)) W4 (by kernel_rfl) ⟨rfl, rfl⟩
    | 2, hdi, _, hdep, _ =>
      obtain rfl := Option.some.inj hdi
      rw [updV_self (show x 1 = _ from hdep 1 (by simp [depPu]) (by decide))]
      exact OI_value rfl rfl (about_none (by intro c h; cases h)) (by intro c h; cases h) (.pointer (some ⟨g, 0, none⟩)) W4 (by kernel_rfl) ⟨rfl, rfl⟩
    | 3, hdi, _, hdep, _ =>
      obtain rfl := Option.some.inj hdi
      rw [updV_self (show x 2 = _ from hdep 2 (by simp [depPu]) (by decide))]
      exact OI_value rfl rfl (about_none (by intro c h; cases h)) (by intro c h; cases h) (.pointer (some ⟨g, 0, none⟩)) W4 (by kernel_rfl) ⟨rfl, rfl⟩
    | 4, hdi, _, hdep, hhi =>
      obtain rfl := Option.some.inj hdi
      rw [updV_self (show x 3 = _ from hdep 3 (by simp [depPu]) (by decide))]
      exact OI_value rfl rfl (about_none (by intro c h; cases h)) (by intro c h; cases h) (v) W4 (lgRun_cell 68 _ ⟨g, 0, none⟩ _ _ rfl (by kernel_rfl) Tryz.underlying68 rfl _ (((hR.one (hhi 1 7 rfl (by decide))).cell (p := ⟨g, 0, none⟩) HQ.out.lt).trans c0)) ⟨rfl, rfl⟩
    | 5, hdi, _, _, hhi =>
      obtain rfl := Option.some.inj hdi
      exact OI_value rfl rfl (about_none (by intro c h; cases h)) (by intro c h; cases h) (.agg (pkC p)) W4 (lgRun_row 78 _ rfl w.heap.size (by kernel_rfl) 78 (pkC p) 4 _ Tryz.underlying78 (by kernel_rfl) rfl W4 (by rw [hR.zero (hhi 0 6 rfl (by decide))]; exact HBX.out)) ⟨rfl, rfl⟩
    | 6, _, hni, _, _ => exact absurd (by decide) hni
    | 7, _, hni, _, _ => exact absurd (by decide) hni
    | 8, hdi, _, hdep, _ =>
      obtain rfl := Option.some.inj hdi
      rw [updV_self (show x 0 = _ from hdep 0 (by simp [depPu]) (by decide))]
      exact OI_value rfl rfl (about_none (by intro c h; cases h)) (by intro c h; cases h) (.pointer (some ⟨g, 0, none⟩)) W4 (by kernel_rfl) ⟨rfl, rfl⟩
    | 9, hdi, _, hdep, _ =>
      obtain rfl := Option.some.inj hdi
      rw [updV_self (show x 8 = _ from hdep 8 (by simp [depPu]) (by decide))]
      exact OI_value rfl rfl (about_none (by intro c h; cases h)) (by intro c h; cases h) (.pointer (some ⟨g, 0, none⟩)) W4 (by kernel_rfl) ⟨rfl, rfl⟩
    | 10, _, hni, _, _ => exact absurd (by decide) hni
    | _ + 11, hdi, _, _, _ => simp at hdi
  case cal =>
    intro x W4 k2 ii d u hR hk hdi hdep hu0 hup
    match k2, hk, hR, hu0, hup with
    | 0, hk, hR, hu0, hup =>
      obtain rfl := Option.some.inj hk
      obtain rfl := Option.some.inj hdi
      obtain rfl : W4 = q0.drew := hR
      rw [updV_self (show x 5 = _ from hdep 5 (by simp [depPu]) (by decide))]
      obtain ⟨i0, j1, j2, j3, j4⟩ := pk_info
      refine OI_value rfl rfl (about_none (by intro c h; cases h)) (by intro c h; cases h) (.slice (some ⟨q0.drew.heap.size, 0, none⟩) 1 1) _ (lgRun_build1 68 78 _ (pkC p) i0 _ 4 rfl (by kernel_rfl) Tryz.underlying68 j1 j2 j3 (by decide) (by decide) (by kernel_rfl) _) ⟨_, rfl, rfl, rfl⟩
    | 1, hk, hR, hu0, hup =>
      obtain rfl := Option.some.inj hk
      obtain rfl := Option.some.inj hdi
      obtain ⟨rfl, hu⟩ := hR
      have h6 : x 6 = u := hup 0 6 rfl rfl
      rw [hu] at h6
      rw [updV_self (show x 4 = _ from hdep 4 (by simp [depPu]) (by decide)), updV_self (show (updV x 4 _) 6 = _ from h6)]
      have hq1 := HQ.out.below ((Below.refl _ q0.drew).alloc (Nat.le_refl _) (.cells (pkC p) 78))
      obtain ⟨v', w', a1, a2, a3⟩ := pk_append (q0.drew.alloc (.cells (pkC p) 78)) 68 v m.way p q0.drew.heap.size hq1.way (Row.new _ _ _) (by omega)
      have k1 : KeepP (fun k => v.ownBlock = some k) (q0.drew.alloc (.cells (pkC p) 78)) w' := keepL_of (a3.imp (fun z => z.2) (fun z => z.1))
      refine OI_value rfl rfl (about_builtin _ _ _ rfl) (by intro c h; cases h) v' w' (lgRun_append _ _ _ v _ v' _ _ rfl (by kernel_rfl) (by kernel_rfl) a1) ⟨_, rfl, k1.row hq1.row hq1.apart, a2, (KeepP.of_below ((Below.refl _ q0.drew).alloc (Nat.le_refl _) (.cells (pkC p) 78))).trans k1, fun k hk => ?_⟩
      rcases a3 with ⟨z, _⟩ | ⟨_, z⟩
      · rw [z] at hk; exact .inl hk
      · right; rw [z k hk]; simp
    | 2, hk, hR, hu0, hup =>
      obtain rfl := Option.some.inj hk
      obtain rfl := Option.some.inj hdi
      obtain ⟨z1, z2, z3, z4⟩ := hR
      have h7 : x 7 = u := hup 1 7 rfl rfl
      rw [updV_self (show x 9 = _ from hdep 9 (by simp [depPu]) (by decide)), updV_self (show (updV x 9 _) 7 = _ from h7)]
      refine OI_skip rfl rfl (about_none (by intro c h; cases h)) (by intro c h; cases h) _ (lgRun_store 68 _ _ ⟨g, 0, none⟩ u v (RowO.one z2) rfl (by kernel_rfl) (by kernel_rfl) (by kernel_rfl) _ (z1.cell 0) (z1.frozen 0)) ⟨undef, (lgPut_none _ _).trans (put_far _ _ _ (by rw [puts_size]; exact Nat.le_of_ble_eq_true rfl)).symm, u, ?_, ?_, z4⟩
      · have hne : u.ownBlock ≠ some g := fun e => by
          rcases z4 g e with e1 | e1
          · exact HQ.out.apart e1
          · exact absurd HQ.out.lt (by omega)
        refine ⟨z1.set 0 u, z2.same (fun k hk => Below.heap_setCell _ _ _ _ (fun e => ?_))⟩
        rw [e] at hk
        exact hne hk
      · exact (KeepP.mono z3 (fun k e => .inr e)).trans (KeepP.setCell (st := fun k => k = g ∨ v.ownBlock = some k) (.inl rfl) _ _ _)
    | _ + 3, hk, _, _, _ => simp at hk
  case h0 => exact rfl
  case don =>
    rintro x W u ⟨v', hL, hK, hV⟩ _ _
    simp only [putsV, Act.put, List.setIfInBounds_toArray, List.set_cons_succ, List.set_cons_zero, List.set_nil, Nat.reduceAdd]
    generalize x 0 = z0, x 1 = z1, x 2 = z2, x 3 = z3, x 4 = z4, x 5 = z5, x 6 = z6, x 7 = z7, x 8 = z8, x 9 = z9, x 10 = z10
    have hbx : Row W w.heap.size 78 (pkC p) := hK.row HBX.out (fun e => e.elim (fun e => by have := HG.out; omega) (fun e => by have := HW.out _ e; omega))
    have hK0 : KeepL g v w W := (KeepP.of_below (HB0.out.drew)).trans hK
    have hV0 : ∀ k, v'.ownBlock = some k → v.ownBlock = some k ∨ w.heap.size ≤ k := fun k hk => (hV k hk).imp id (fun e => by have := HS.out; omega)
    have b3 : W.cell? ⟨w.heap.size, 3, none⟩ = some (.bool p.asks) := hbx.cell 3
    have b1 : W.cell? ⟨w.heap.size, 1, none⟩ = some (.int .i64 (p.size : Int)) := hbx.cell 1
    have c1 := hL.cells.c1
    have f1 := hL.cells.f 1
    simp only at c1
    have HL := veil hL
    have HK := veil hK0
    have HV := veil hV0
    clear hL hK hV hbx hK0 hV0
    cases hpa : p.asks
    · rw [hpa] at b3
      have hA := HA.out
      rw [hpa, if_neg (by decide)] at hA
      subst hA
      clear HA
      clear hpa hl ha hp c0 b1 c1 f1
      go_wp2
      refine bodyPost_end (results_none rfl _ _ _) rfl ?_
      refine ⟨⟨_, rfl⟩, v', ?_, HK.out, HV.out⟩
      exact HL.out
    · rw [hpa] at b3
      have hz := HA.out
      rw [hpa, if_pos rfl] at hz
      have e1 : IntKind.i64.wrap ((m.ask : Int) + (p.size : Int)) = (A : Int) := by rw [IntKind.wrap_i64]; omega
      clear hz HA ha hp hl hpa c0
      go_wp2
      go_region
      go_wp2
      refine bodyPost_end (results_none rfl _ _ _) rfl ?_
      refine ⟨⟨_, rfl⟩, v', ?_, ?_, HV.out⟩
      · refine ⟨HL.out.row.drew.set 1 _, HL.out.way.same (fun k hk => Below.heap_setCell _ _ _ _ (fun e => ?_))⟩
        rw [e] at hk
        exact HL.out.apart hk
      · exact HK.out.trans ((KeepP.of_below (Below.refl _ W).drew).trans (KeepP.setCell (st := fun k => k = g ∨ v.ownBlock = some k) (.inl rfl) _ _ _))
end Go.Proofs.YtohoieleakieeaaGreatDoor

/-! Written by mklgsent.py: a packet is sent. -/
namespace Go.Proofs.YtohoieleakieeaaGreatDoor
open Go Go.RowKit

def sentOk (m : ML) (num : Nat) (size : Int) (now : Nat) : Prop := num ≤ 4611686018427387903 ∧ m.next ≤ num ∧ 1 ≤ size ∧ size ≤ 1200 ∧ m.now ≤ now ∧ now ≤ 1099511627775
instance (m : ML) (num : Nat) (size : Int) (now : Nat) : Decidable (sentOk m num size now) := by unfold sentOk; infer_instance
def sentM (m : ML) (num : Nat) (size : Int) (now : Nat) (asks : Bool) : ML :=
  { m with way := m.way ++ [⟨num, size.toNat, now, asks⟩], ask := if asks then m.ask + size.toNat else m.ask, next := num + 1, now := now, asked := if asks then now else m.asked }
set_option maxRecDepth 20000 in
set_option maxHeartbeats 1000000 in
theorem sent_no0 (g : Nat) (v : Value) (m : ML) (num : Nat) (size : Int) (now : Nat) (asks : Bool) (w : World) (h : LdOk w g v m) (hw : 0 < m.win) (h0 : 4611686018427387903 < num) :
    Calls Tryz.prog 7 #[.pointer (some ⟨g, 0, none⟩), .int .u64 (num : Int), .int .i64 size, .int .u64 (now : Int), .bool asks] w fun e w' => e = .returned (.int .i64 1) ∧ Below w.heap.size w w' := by
  have num1 : decide ((4611686018427387903 : Int) < (num : Int)) = true := by simp; omega
  have num2 : decide (4611686018427387903 < num) = true := by simp; omega
  have c2 := h.cells.c2
  have TC := veil (there_yes g v m w h.row hw)
  clear h hw h0
  go_enter Tryz.func7, Tryz.ntmps7
  go_wp2_with fail
  refine TC.out.mono ?_
  rintro e1 w1 ⟨rfl, rfl⟩
  go_wp2
  go_ret
  exact ⟨rfl, Below.refl _ _⟩
set_option maxRecDepth 20000 in
set_option maxHeartbeats 1000000 in
theorem sent_no1 (g : Nat) (v : Value) (m : ML) (num : Nat) (size : Int) (now : Nat) (asks : Bool) (w : World) (h : LdOk w g v m) (hw : 0 < m.win) (h0 : num ≤ 4611686018427387903) (h1 : num < m.next) :
    Calls Tryz.prog 7 #[.pointer (some ⟨g, 0, none⟩), .int .u64 (num : Int), .int .i64 size, .int .u64 (now : Int), .bool asks] w fun e w' => e = .returned (.int .i64 1) ∧ Below w.heap.size w w' := by
  have num1 : decide ((4611686018427387903 : Int) < (num : Int)) = false := by simp; omega
  have num2 : decide (4611686018427387903 < num) = false := by simp; omega
  have next1 : decide ((num : Int) < (m.next : Int)) = true := by simp; omega
  have next2 : decide (num < m.next) = true := by simp; omega
  have c2 := h.cells.c2
  have TC := veil (there_yes g v m w h.row hw)
  clear h hw h0 h1
  go_enter Tryz.func7, Tryz.ntmps7
  go_wp2_with fail
  refine TC.out.mono ?_
  rintro e1 w1 ⟨rfl, rfl⟩
  go_wp2
  go_ret
  exact ⟨rfl, Below.refl _ _⟩
set_option maxRecDepth 20000 in
set_option maxHeartbeats 1000000 in
theorem sent_no2 (g : Nat) (v : Value) (m : ML) (num : Nat) (size : Int) (now : Nat) (asks : Bool) (w : World) (h : LdOk w g v m) (hw : 0 < m.win) (h0 : num ≤ 4611686018427387903) (h1 : m.next ≤ num) (h2 : size < 1) :
    Calls Tryz.prog 7 #[.pointer (some ⟨g, 0, none⟩), .int .u64 (num : Int), .int .i64 size, .int .u64 (now : Int), .bool asks] w fun e w' => e = .returned (.int .i64 1) ∧ Below w.heap.size w w' := by
  have num1 : decide ((4611686018427387903 : Int) < (num : Int)) = false := by simp; omega
  have num2 : decide (4611686018427387903 < num) = false := by simp; omega
  have next1 : decide ((num : Int) < (m.next : Int)) = false := by simp; omega
  have next2 : decide (num < m.next) = false := by simp; omega
  have s11 : decide (size < (1 : Int)) = true := by simp; omega
  have c2 := h.cells.c2
  have TC := veil (there_yes g v m w h.row hw)
  clear h hw h0 h1 h2
  go_enter Tryz.func7, Tryz.ntmps7
  go_wp2_with fail
  refine TC.out.mono ?_
  rintro e1 w1 ⟨rfl, rfl⟩
  go_wp2
  go_ret
  exact ⟨rfl, Below.refl _ _⟩
set_option maxRecDepth 20000 in
set_option maxHeartbeats 1000000 in
theorem sent_no3 (g : Nat) (v : Value) (m : ML) (num : Nat) (size : Int) (now : Nat) (asks : Bool) (w : World) (h : LdOk w g v m) (hw : 0 < m.win) (h0 : num ≤ 4611686018427387903) (h1 : m.next ≤ num) (h2 : 1 ≤ size) (h3 : 1200 < size) :
    Calls Tryz.prog 7 #[.pointer (some ⟨g, 0, none⟩), .int .u64 (num : Int), .int .i64 size, .int .u64 (now : Int), .bool asks] w fun e w' => e = .returned (.int .i64 1) ∧ Below w.heap.size w w' := by
  have num1 : decide ((4611686018427387903 : Int) < (num : Int)) = false := by simp; omega
  have num2 : decide (4611686018427387903 < num) = false := by simp; omega
  have next1 : decide ((num : Int) < (m.next : Int)) = false := by simp; omega
  have next2 : decide (num < m.next) = false := by simp; omega
  have s11 : decide (size < (1 : Int)) = false := by simp; omega
  have s21 : decide ((1200 : Int) < size) = true := by simp; omega
  have c2 := h.cells.c2
  have TC := veil (there_yes g v m w h.row hw)
  clear h hw h0 h1 h2 h3
  go_enter Tryz.func7, Tryz.ntmps7
  go_wp2_with fail
  refine TC.out.mono ?_
  rintro e1 w1 ⟨rfl, rfl⟩
  go_wp2
  go_ret
  exact ⟨rfl, Below.refl _ _⟩
set_option maxRecDepth 20000 in
set_option maxHeartbeats 1000000 in
theorem sent_no4 (g : Nat) (v : Value) (m : ML) (num : Nat) (size : Int) (now : Nat) (asks : Bool) (w : World) (h : LdOk w g v m) (hw : 0 < m.win) (h0 : num ≤ 4611686018427387903) (h1 : m.next ≤ num) (h2 : 1 ≤ size) (h3 : size ≤ 1200) (h4 : ¬ (m.now ≤ now ∧ now ≤ 1099511627775)) :
    Calls Tryz.prog 7 #[.pointer (some ⟨g, 0, none⟩), .int .u64 (num : Int), .int .i64 size, .int .u64 (now : Int), .bool asks] w fun e w' => e = .returned (.int .i64 1) ∧ Below w.heap.size w w' := by
  have num1 : decide ((4611686018427387903 : Int) < (num : Int)) = false := by simp; omega
  have num2 : decide (4611686018427387903 < num) = false := by simp; omega
  have next1 : decide ((num : Int) < (m.next : Int)) = false := by simp; omega
  have next2 : decide (num < m.next) = false := by simp; omega
  have s11 : decide (size < (1 : Int)) = false := by simp; omega
  have s21 : decide ((1200 : Int) < size) = false := by simp; omega
  have c2 := h.cells.c2
  have TC := veil (there_yes g v m w h.row hw)
  have MC := veil (mayBe_any g v m now w h.row)
  rw [show (decide (m.now ≤ now) && decide (now ≤ 1099511627775)) = false from by rw [Bool.and_eq_false_iff, decide_eq_false_iff_not, decide_eq_false_iff_not]; omega] at MC
  clear h hw h0 h1 h2 h3 h4
  go_enter Tryz.func7, Tryz.ntmps7
  go_wp2_with fail
  refine TC.out.mono ?_
  rintro e1 w1 ⟨rfl, rfl⟩
  go_wp2_with fail
  refine MC.out.mono ?_
  rintro e2 w2 ⟨rfl, rfl⟩
  go_wp2
  go_ret
  exact ⟨rfl, Below.refl _ _⟩
set_option maxRecDepth 20000 in
set_option maxHeartbeats 1000000 in
theorem sent_yes (g : Nat) (v : Value) (m : ML) (num : Nat) (size : Int) (now : Nat) (asks : Bool) (w : World) (h : LdOk w g v m) (hw : 0 < m.win) (h0 : num ≤ 4611686018427387903) (h1 : m.next ≤ num) (h2 : 1 ≤ size) (h3 : size ≤ 1200) (h4 : m.now ≤ now ∧ now ≤ 1099511627775) (hl : m.way.length ≤ 2000) (ha : m.ask ≤ 3000000) :
    Calls Tryz.prog 7 #[.pointer (some ⟨g, 0, none⟩), .int .u64 (num : Int), .int .i64 size, .int .u64 (now : Int), .bool asks] w fun e w' => e = .returned (.int .i64 0) ∧ ∃ v', LdOk w' g v' (sentM m num size now asks) ∧ KeepL g v w w' ∧ (∀ k, v'.ownBlock = some k → v.ownBlock = some k ∨ w.heap.size ≤ k) := by
  have num1 : decide ((4611686018427387903 : Int) < (num : Int)) = false := by simp; omega
  have num2 : decide (4611686018427387903 < num) = false := by simp; omega
  have next1 : decide ((num : Int) < (m.next : Int)) = false := by simp; omega
  have next2 : decide (num < m.next) = false := by simp; omega
  have s11 : decide (size < (1 : Int)) = false := by simp; omega
  have s21 : decide ((1200 : Int) < size) = false := by simp; omega
  obtain ⟨sz, rfl⟩ : ∃ sz : Nat, size = (sz : Int) := ⟨size.toNat, by omega⟩
  have c2 := h.cells.c2
  have c0 := h.cells.c0
  obtain ⟨va, vc, hv, _, _⟩ := h.way.shape
  have TC := veil (there_yes g v m w h.row hw)
  have MC := veil (mayBe_any g v m now w h.row)
  rw [show (decide (m.now ≤ now) && decide (now ≤ 1099511627775)) = true from by rw [Bool.and_eq_true, decide_eq_true_eq, decide_eq_true_eq]; exact h4] at MC
  have l1 : decide ((m.way.length : Int) = 1048576) = false := by simp; omega
  have l2 : decide (m.way.length = 1048576) = false := by simp; omega
  have l3 : ¬ (m.way.length : Int) = 1048576 := by omega
  have l4 : ¬ m.way.length = 1048576 := by omega
  obtain ⟨sm, hsm⟩ : ∃ sm, sentM m num (sz : Int) now asks = sm := ⟨_, rfl⟩
  have PC := veil (put_any g v m ⟨num, sz, now, asks⟩ w h hl ha (by show sz ≤ 1200; omega))
  obtain ⟨n1, hn1⟩ : ∃ n1, num + 1 = n1 := ⟨_, rfl⟩
  have e1 : IntKind.u64.wrap ((num : Int) + 1) = (n1 : Int) := by rw [IntKind.wrap_u64]; omega
  rw [hsm]
  have HSM := veil hsm
  have HN := veil hn1
  unfold pkC at PC
  simp only at PC
  clear h hw h0 h1 h2 h3 h4 hl ha hsm hn1
  subst hv
  generalize m.way.length = wl at *
  generalize hmn : m.next = mn at *
  have HMN := veil hmn
  clear hmn
  go_enter Tryz.func7, Tryz.ntmps7
  go_wp2_with fail
  refine TC.out.mono ?_
  rintro e1 w1 ⟨rfl, rfl⟩
  go_wp2_with fail
  refine MC.out.mono ?_
  rintro e2 w2 ⟨rfl, rfl⟩
  go_wp2_with fail
  refine PC.out.mono ?_
  rintro e3 w3 ⟨⟨u3, rfl⟩, v3, hL3, hK3, hV3⟩
  have r2 := hL3.cells.c2
  have r4 := hL3.cells.c4
  have r3 := hL3.cells.c3
  have f2 := hL3.cells.f 2
  have f3 := hL3.cells.f 3
  have f4 := hL3.cells.f 4
  simp only at r2 r3 r4
  have HL := veil hL3
  have HK := veil hK3
  have HV := veil hV3
  clear hL3 hK3 hV3 c0 c2
  cases asks
  · go_wp2
    go_ret
    refine ⟨rfl, v3, ?_, ?_, HV.out⟩
    · rw [← HSM.out]
      refine ⟨?_, HL.out.way.same (fun k hk => ?_)⟩
      · show Row _ g 70 (mlC v3 ⟨_, _, num + 1, _, _, _, _, _, _, _, _, _, _, _, _⟩)
        rw [HN.out]
        exact (HL.out.row.set 2 _).set 4 _
      · have hne : k ≠ g := fun e => HL.out.apart (e ▸ hk)
        rw [Below.heap_setCell _ _ _ _ hne, Below.heap_setCell _ _ _ _ hne]
    · exact (HK.out.trans (KeepP.setCell (.inl rfl) _ _ _)).trans (KeepP.setCell (.inl rfl) _ _ _)
  · go_wp2
    go_ret
    refine ⟨rfl, v3, ?_, ?_, HV.out⟩
    · rw [← HSM.out]
      refine ⟨?_, HL.out.way.same (fun k hk => ?_)⟩
      · show Row _ g 70 (mlC v3 ⟨_, _, num + 1, _, _, _, _, _, _, _, _, _, _, _, _⟩)
        rw [HN.out]
        exact ((HL.out.row.set 2 _).set 4 _).set 3 _
      · have hne : k ≠ g := fun e => HL.out.apart (e ▸ hk)
        rw [Below.heap_setCell _ _ _ _ hne, Below.heap_setCell _ _ _ _ hne, Below.heap_setCell _ _ _ _ hne]
    · exact ((HK.out.trans (KeepP.setCell (.inl rfl) _ _ _)).trans (KeepP.setCell (.inl rfl) _ _ _)).trans (KeepP.setCell (.inl rfl) _ _ _)
theorem sent_any (g : Nat) (v : Value) (m : ML) (num : Nat) (size : Int) (now : Nat) (asks : Bool) (w : World) (h : LdOk w g v m) (hw : 0 < m.win) (hl : m.way.length ≤ 2000) (ha : m.ask ≤ 3000000) :
    Calls Tryz.prog 7 #[.pointer (some ⟨g, 0, none⟩), .int .u64 (num : Int), .int .i64 size, .int .u64 (now : Int), .bool asks] w fun e w' => ∃ v', (sentOk m num size now ∧ e = .returned (.int .i64 0) ∧ LdOk w' g v' (sentM m num size now asks) ∨ ¬ sentOk m num size now ∧ e = .returned (.int .i64 1) ∧ LdOk w' g v' m) ∧ KeepL g v w w' ∧ (∀ k, v'.ownBlock = some k → v.ownBlock = some k ∨ w.heap.size ≤ k) := by
  by_cases c : sentOk m num size now
  · obtain ⟨h0, h1, h2, h3, h4⟩ := c
    refine (sent_yes g v m num size now asks w h hw h0 h1 h2 h3 h4 hl ha).mono ?_
    rintro e w' ⟨rfl, v', a, b, d⟩
    exact ⟨v', .inl ⟨⟨h0, h1, h2, h3, h4⟩, rfl, a⟩, b, d⟩
  · have no : ∀ (e : Ending) (w' : World), (e = .returned (.int .i64 1) ∧ Below w.heap.size w w') → ∃ v', (sentOk m num size now ∧ e = .returned (.int .i64 0) ∧ LdOk w' g v' (sentM m num size now asks) ∨ ¬ sentOk m num size now ∧ e = .returned (.int .i64 1) ∧ LdOk w' g v' m) ∧ KeepL g v w w' ∧ (∀ k, v'.ownBlock = some k → v.ownBlock = some k ∨ w.heap.size ≤ k) := by
      rintro e w' ⟨rfl, hb⟩
      exact ⟨v, .inr ⟨c, rfl, h.below hb⟩, KeepP.of_below hb, fun k hk => .inl hk⟩
    by_cases h0 : num ≤ 4611686018427387903
    · by_cases h1 : m.next ≤ num
      · by_cases h2 : 1 ≤ size
        · by_cases h3 : size ≤ 1200
          · exact (sent_no4 g v m num size now asks w h hw h0 h1 h2 h3 (fun q => c ⟨h0, h1, h2, h3, q⟩)).mono no
          · exact (sent_no3 g v m num size now asks w h hw h0 h1 h2 (by omega)).mono no
        · exact (sent_no2 g v m num size now asks w h hw h0 h1 (by omega)).mono no
      · exact (sent_no1 g v m num size now asks w h hw h0 (by omega)).mono no
    · exact (sent_no0 g v m num size now asks w h hw (by omega)).mono no
end Go.Proofs.YtohoieleakieeaaGreatDoor
