/-
  Out of LrMem, LrMeas.
-/
import Derived.Test.YtohoieleakieeaaGreatDoorGl15

/-! The document's ledger in memory. -/
namespace Go.Proofs.YtohoieleakieeaaGreatDoor
open Go Go.RowKit

def rdC (v : Value) (s : Lg.Led) : Array Value :=
  #[v, .bool s.any, .int .u64 (s.last : Int), .int .u64 (s.asked : Int), .int .u64 (s.now : Int), .int .u64 (s.front : Int), .bool s.fronted, .int .u64 (s.latest : Int), .int .u64 (s.smooth : Int), .int .u64 (s.vary : Int), .int .u64 (s.least : Int), .bool s.measured, .int .i64 (s.win : Int), .int .i64 s.thr, .int .u64 (s.moment : Int), .bool s.moments]
structure RdOk (w : World) (g : Nat) (v : Value) (s : Lg.Led) : Prop where
  row : Row w g 74 (rdC v s)
  way : RowO w 80 4 v s.way.length (vp s.way)
theorem RdOk.lt {w : World} {g : Nat} {v : Value} {s : Lg.Led} (h : RdOk w g v s) : g < w.heap.size := h.row.lt
theorem RdOk.same {w w' : World} {g : Nat} {v : Value} {s : Lg.Led} (h : RdOk w g v s) (h1 : w'.heap[g]? = w.heap[g]?) (h2 : ∀ k, v.ownBlock = some k → w'.heap[k]? = w.heap[k]?) : RdOk w' g v s := ⟨h1.trans h.row, h.way.same h2⟩
theorem RdOk.below {w w' : World} {g : Nat} {v : Value} {s : Lg.Led} (h : RdOk w g v s) (hb : Below w.heap.size w w') : RdOk w' g v s := h.same (hb.block _ h.lt) (fun k hk => hb.block _ (h.way.lt k hk))
theorem RdOk.apart {w : World} {g : Nat} {v : Value} {s : Lg.Led} (h : RdOk w g v s) : v.ownBlock ≠ some g := by
  intro e
  rcases h.way.2 with ⟨rfl, _⟩ | ⟨b, o, cap, cur, rfl, hg, _⟩
  · cases e
  · injection e with e
    subst e
    have := (show w.heap[b]? = some _ from h.row).symm.trans hg
    injection this with this
    injection this with _ this
    exact absurd this (by decide)
structure RdCells (w : World) (g : Nat) (v : Value) (s : Lg.Led) : Prop where
  c0 : w.cell? ⟨g, 0, none⟩ = some v
  c1 : w.cell? ⟨g, 1, none⟩ = some (.bool s.any)
  c2 : w.cell? ⟨g, 2, none⟩ = some (.int .u64 (s.last : Int))
  c3 : w.cell? ⟨g, 3, none⟩ = some (.int .u64 (s.asked : Int))
  c4 : w.cell? ⟨g, 4, none⟩ = some (.int .u64 (s.now : Int))
  c5 : w.cell? ⟨g, 5, none⟩ = some (.int .u64 (s.front : Int))
  c6 : w.cell? ⟨g, 6, none⟩ = some (.bool s.fronted)
  c7 : w.cell? ⟨g, 7, none⟩ = some (.int .u64 (s.latest : Int))
  c8 : w.cell? ⟨g, 8, none⟩ = some (.int .u64 (s.smooth : Int))
  c9 : w.cell? ⟨g, 9, none⟩ = some (.int .u64 (s.vary : Int))
  c10 : w.cell? ⟨g, 10, none⟩ = some (.int .u64 (s.least : Int))
  c11 : w.cell? ⟨g, 11, none⟩ = some (.bool s.measured)
  c12 : w.cell? ⟨g, 12, none⟩ = some (.int .i64 (s.win : Int))
  c13 : w.cell? ⟨g, 13, none⟩ = some (.int .i64 s.thr)
  c14 : w.cell? ⟨g, 14, none⟩ = some (.int .u64 (s.moment : Int))
  c15 : w.cell? ⟨g, 15, none⟩ = some (.bool s.moments)
  f : ∀ k, w.frozen? ⟨g, k, none⟩ = false
theorem rd_cells {w : World} {g : Nat} {v : Value} {s : Lg.Led} (h : Row w g 74 (rdC v s)) : RdCells w g v s :=
  ⟨h.cell 0, h.cell 1, h.cell 2, h.cell 3, h.cell 4, h.cell 5, h.cell 6, h.cell 7, h.cell 8, h.cell 9, h.cell 10, h.cell 11, h.cell 12, h.cell 13, h.cell 14, h.cell 15, fun k => h.frozen k⟩
theorem RdOk.cells {w : World} {g : Nat} {v : Value} {s : Lg.Led} (h : RdOk w g v s) : RdCells w g v s := rd_cells h.row

set_option maxRecDepth 20000 in
theorem refNew_any (w : World) :
    Calls Tryz.prog 6 #[] w fun e w' => ∃ g, e = .returned (.pointer (some ⟨g, 0, none⟩)) ∧ w.heap.size ≤ g ∧ RdOk w' g (.slice none 0 0) Lg.new ∧ Below w.heap.size w w' := by
  go_enter Tryz.func6, Tryz.ntmps6
  go_wp2
  go_ret
  exact ⟨_, rfl, Nat.le_refl _, ⟨Row.new _ _ _, .nil _ _ _⟩, (Below.refl _ w).alloc (Nat.le_refl _) _⟩
set_option maxRecDepth 20000 in
theorem refRoom_any (g : Nat) (v : Value) (s : Lg.Led) (w : World) (h : RdOk w g v s) : Calls Tryz.prog 46 #[.pointer (some ⟨g, 0, none⟩)] w fun e w' => e = .returned (.int .i64 (s.win : Int)) ∧ w' = w := by
  have c := h.cells.c12
  clear h
  go_enter Tryz.func46, Tryz.ntmps46
  go_wp2
  go_ret
  exact ⟨rfl, rfl⟩
set_option maxRecDepth 20000 in
theorem refTimes_any (g : Nat) (v : Value) (s : Lg.Led) (w : World) (h : RdOk w g v s) : Calls Tryz.prog 42 #[.pointer (some ⟨g, 0, none⟩)] w fun e w' => e = .returned (.agg (tmC s.latest s.smooth s.vary s.least)) ∧ Below w.heap.size w w' := by
  have hb := (Below.refl w.heap.size w).alloc (Nat.le_refl _) (.cells #[.int .u64 0, .int .u64 0, .int .u64 0, .int .u64 0] 71)
  have h1 := h.below hb
  have c6 := h1.cells.c7
  have c7 := h1.cells.c8
  have c8 := h1.cells.c9
  have c9 := h1.cells.c10
  clear h h1 hb
  unfold tmC
  go_enter Tryz.func42, Tryz.ntmps42
  go_wp2
  refine bodyPost_ret (results_cell_row rfl _ _ w.heap.size 71 _ (0, 0) _ rfl (Row.new _ _ _) Tryz.underlying71 rfl (by kernel_rfl)) rfl ⟨rfl, ?_⟩
  exact (Below.refl w.heap.size w).alloc (Nat.le_refl _) _
set_option maxRecDepth 20000 in
set_option maxHeartbeats 1000000 in
theorem refWait_any (g : Nat) (v : Value) (s : Lg.Led) (w : World) (h : RdOk w g v s) (h1 : s.smooth ≤ 1099511627775) (h2 : s.vary ≤ 1099511627775) : Calls Tryz.prog 45 #[.pointer (some ⟨g, 0, none⟩)] w fun e w' => e = .returned (.int .u64 (Lg.wait s : Int)) ∧ Below w.heap.size w w' := by
  have c1 := h.cells.c8
  have c2 := h.cells.c9
  obtain ⟨p, hp⟩ : ∃ p, max (4 * s.vary) 1 = p := ⟨_, rfl⟩
  obtain ⟨z, hz⟩ : ∃ z, Lg.wait s = z := ⟨_, rfl⟩
  have hz' := hz
  unfold Lg.wait at hz'
  rw [hp] at hz'
  have e2 : IntKind.u64.wrap (4 * (s.vary : Int)) = 4 * (s.vary : Int) := by rw [IntKind.wrap_u64]; omega
  have e4 : max (4 * (s.vary : Int)) 1 = (p : Int) := by omega
  have e5 : IntKind.u64.wrap ((s.smooth : Int) + (p : Int)) = (s.smooth : Int) + (p : Int) := by rw [IntKind.wrap_u64]; omega
  have e6 : IntKind.u64.wrap ((s.smooth : Int) + (p : Int) + 25) = (z : Int) := by rw [IntKind.wrap_u64]; omega
  rw [hz]
  clear hp hz hz' h1 h2 h
  go_enter Tryz.func45, Tryz.ntmps45
  go_wp2
  go_region
  go_wp2
  go_ret
  exact ⟨rfl, (Below.refl _ w).drew⟩
end Go.Proofs.YtohoieleakieeaaGreatDoor

/-! The document's measure, to, Sent. -/
namespace Go.Proofs.YtohoieleakieeaaGreatDoor
open Go Go.RowKit

set_option maxRecDepth 20000 in
set_option maxHeartbeats 2000000 in
theorem refMeas_any (g : Nat) (v : Value) (s : Lg.Led) (took delay : Nat) (w : World) (h : Row w g 74 (rdC v s)) (h1 : s.smooth ≤ 1099511627775) (h2 : s.vary ≤ 1099511627775) (h3 : s.least ≤ 1099511627775) (h4 : took ≤ 1099511627775) (h5 : delay ≤ 1099511627775) :
    Calls Tryz.prog 36 #[.pointer (some ⟨g, 0, none⟩), .int .u64 (took : Int), .int .u64 (delay : Int)] w fun e w' => (∃ u, e = .returned u) ∧ Row w' g 74 (rdC v (Lg.measure s took delay)) ∧ KeepP (fun k => k = g) w w' := by
  obtain ⟨way, any, last, asked, now, front, fronted, latest, smooth, vary, least, measured, win, thr, moment, moments⟩ := s
  simp only at h1 h2 h3
  obtain ⟨c0, c1, c2, c3, c4, c5, c6, c7, c8, c9, c10, c11, c12, c13, c14, c15, f⟩ := rd_cells h
  simp only at c7 c8 c9 c10 c11
  have f7 := f 7
  have f8 := f 8
  have f9 := f 9
  have f10 := f 10
  have f11 := f 11
  have H := veil h
  clear c0 c1 c2 c3 c4 c5 c6 c12 c13 c14 c15 f h
  cases measured
  · obtain ⟨z, hz⟩ : ∃ z, took / 2 = z := ⟨_, rfl⟩
    have e1 : Int.tdiv (took : Int) 2 = (z : Int) := by rw [Int.tdiv_eq_ediv_of_nonneg (by omega)]; omega
    have e2 : IntKind.u64.wrap (z : Int) = (z : Int) := by rw [IntKind.wrap_u64]; omega
    have hM : Lg.measure ⟨way, any, last, asked, now, front, fronted, latest, smooth, vary, least, false, win, thr, moment, moments⟩ took delay = ⟨way, any, last, asked, now, front, fronted, took, took, z, took, true, win, thr, moment, moments⟩ := by rw [← hz]; rfl
    rw [hM]
    clear hM hz h1 h2 h3 h4 h5
    go_enter Tryz.func36, Tryz.ntmps36
    go_wp2
    refine bodyPost_ret (results_none rfl _ _ _) rfl ?_
    refine ⟨⟨_, rfl⟩, ?_, ?_⟩
    · exact ((((H.out.set 7 (.int .u64 (took : Int))).set 11 (.bool true)).set 8 (.int .u64 (took : Int))).set 10 (.int .u64 (took : Int))).set 9 (.int .u64 (z : Int))
    · exact (((((keepG g _ _ _).trans (keepG g _ _ _)).trans (keepG g _ _ _)).trans (keepG g _ _ _)).trans (keepG g _ _ _))
  · obtain ⟨k, hk⟩ : ∃ k, min least took = k := ⟨_, rfl⟩
    obtain ⟨a, ha⟩ : ∃ a, (if k + delay ≤ took then took - delay else took) = a := ⟨_, rfl⟩
    have hal : a ≤ 1099511627775 := by rw [← ha]; split <;> omega
    obtain ⟨d, hd⟩ : ∃ d, max smooth a - min smooth a = d := ⟨_, rfl⟩
    obtain ⟨vv, hvv⟩ : ∃ vv, (3 * vary + d) / 4 = vv := ⟨_, rfl⟩
    obtain ⟨ss, hss⟩ : ∃ ss, (7 * smooth + a) / 8 = ss := ⟨_, rfl⟩
    have hM : Lg.measure ⟨way, any, last, asked, now, front, fronted, latest, smooth, vary, least, true, win, thr, moment, moments⟩ took delay = ⟨way, any, last, asked, now, front, fronted, took, ss, vv, k, true, win, thr, moment, moments⟩ := by
      unfold Lg.measure
      simp only [if_true]
      rw [hk, ha, hd, hvv, hss]
    rw [hM]
    have e1 : min (least : Int) (took : Int) = (k : Int) := by omega
    have e2 : IntKind.u64.wrap ((k : Int) + (delay : Int)) = (k : Int) + (delay : Int) := by rw [IntKind.wrap_u64]; omega
    have e3 : IntKind.u64.wrap (max (smooth : Int) (a : Int) - min (smooth : Int) (a : Int)) = (d : Int) := by rw [IntKind.wrap_u64]; omega
    have f1 : IntKind.u64.wrap (3 * (vary : Int)) = 3 * (vary : Int) := by rw [IntKind.wrap_u64]; omega
    have f2 : IntKind.u64.wrap (3 * (vary : Int) + (d : Int)) = 3 * (vary : Int) + (d : Int) := by rw [IntKind.wrap_u64]; omega
    have f3 : Int.tdiv (3 * (vary : Int) + (d : Int)) 4 = (vv : Int) := by rw [Int.tdiv_eq_ediv_of_nonneg (by omega)]; omega
    have f4 : IntKind.u64.wrap (vv : Int) = (vv : Int) := by rw [IntKind.wrap_u64]; omega
    have g1 : IntKind.u64.wrap (7 * (smooth : Int)) = 7 * (smooth : Int) := by rw [IntKind.wrap_u64]; omega
    have g2 : IntKind.u64.wrap (7 * (smooth : Int) + (a : Int)) = 7 * (smooth : Int) + (a : Int) := by rw [IntKind.wrap_u64]; omega
    have g3 : Int.tdiv (7 * (smooth : Int) + (a : Int)) 8 = (ss : Int) := by rw [Int.tdiv_eq_ediv_of_nonneg (by omega)]; omega
    have g4 : IntKind.u64.wrap (ss : Int) = (ss : Int) := by rw [IntKind.wrap_u64]; omega
    have H4 := veil h4
    have TL := veil (show ∀ W, Row W g 74 (rdC v ⟨way, any, last, asked, now, front, fronted, took, smooth, vary, k, true, win, thr, moment, moments⟩) → W.cell? ⟨g, 8, none⟩ = some (.int .u64 (smooth : Int)) ∧ W.cell? ⟨g, 9, none⟩ = some (.int .u64 (vary : Int)) ∧ W.frozen? ⟨g, 8, none⟩ = false ∧ W.frozen? ⟨g, 9, none⟩ = false from fun W hW => ⟨hW.cell 8, hW.cell 9, hW.frozen 8, hW.frozen 9⟩)
    clear hM hk hal hd hvv hss h1 h2 h3 h4 h5
    by_cases c : k + delay ≤ took
    · rw [if_pos c] at ha
      have c1 : decide ((k : Int) + (delay : Int) ≤ (took : Int)) = true := by simp; omega
      have c2 : decide (k + delay ≤ took) = true := by simp; omega
      have c3 : IntKind.u64.wrap ((took : Int) - (delay : Int)) = (a : Int) := by have := H4.out; rw [IntKind.wrap_u64]; omega
      clear c ha
      go_enter Tryz.func36, Tryz.ntmps36
      go_wp2
      go_region
      go_wp2
      refine bodyPost_end (results_none rfl _ _ _) rfl ?_
      refine ⟨⟨_, rfl⟩, ?_, ?_⟩
      · exact ((((H.out.set 7 (.int .u64 (took : Int))).set 10 (.int .u64 (k : Int))).drew.set 9 (.int .u64 (vv : Int))).set 8 (.int .u64 (ss : Int)))
      · exact ((((keepG g _ _ _).trans (keepG g _ _ _)).trans (KeepP.of_below ((Below.refl _ _).drew))).trans (keepG g _ _ _)).trans (keepG g _ _ _)
    · rw [if_neg c] at ha
      have c1 : decide ((k : Int) + (delay : Int) ≤ (took : Int)) = false := by simp; omega
      have c2 : decide (k + delay ≤ took) = false := by simp; omega
      subst ha
      clear c
      go_enter Tryz.func36, Tryz.ntmps36
      go_wp2
      go_region
      go_wp2
      refine bodyPost_end (results_none rfl _ _ _) rfl ?_
      refine ⟨⟨_, rfl⟩, ?_, ?_⟩
      · exact ((((H.out.set 7 (.int .u64 (took : Int))).set 10 (.int .u64 (k : Int))).drew.set 9 (.int .u64 (vv : Int))).set 8 (.int .u64 (ss : Int)))
      · exact ((((keepG g _ _ _).trans (keepG g _ _ _)).trans (KeepP.of_below ((Below.refl _ _).drew))).trans (keepG g _ _ _)).trans (keepG g _ _ _)
theorem Tryz.infoPr : (Tryz.prog.info? 80).map (fun i => (i.zero, i.size, i.bytes)) = some (some (.agg (pkC ⟨0, 0, 0, false⟩)), 4, 32) := by kernel_rfl
theorem pr_info : ∃ i0, Tryz.prog.info? 80 = some i0 ∧ i0.zero = some (.agg (pkC ⟨0, 0, 0, false⟩)) ∧ i0.size = 4 ∧ i0.bytes = 32 := by
  have h := Tryz.infoPr
  cases hq : Tryz.prog.info? 80 with
  | none => rw [hq] at h; cases h
  | some i =>
    rw [hq] at h
    simp only [Option.map_some, Option.some.injEq, Prod.mk.injEq] at h
    exact ⟨i, rfl, h.1, h.2.1, h.2.2⟩
theorem pr_append (w : World) (ty : TypeId) (v : Value) (l : List Lg.Pk) (p : Lg.Pk) (b : Nat) (h : RowO w 80 4 v l.length (vp l)) (hr : Row w b 80 (pkC p)) (hl : l.length ≤ 100000) :
    ∃ v' w', (Builtin.append_ #[72, 72] ty #[v, .slice (some ⟨b, 0, none⟩) 1 1]).run Tryz.prog w = .ok v' w' ∧ RowO w' 80 4 v' (l ++ [p]).length (vp (l ++ [p])) ∧
      (v'.ownBlock = v.ownBlock ∧ v.ownBlock ≠ none ∧ w.grownBy w' v.ownBlock ∨ w.grownBy w' none ∧ (∀ k, v'.ownBlock = some k → k = w.heap.size)) := by
  obtain ⟨i0, h1, h2, h3, h4⟩ := pr_info
  rw [List.length_append, List.length_singleton, vp_append]
  refine run_append_O (P := Tryz.prog) w 72 ty 80 i0 _ 4 32 Tryz.underlying72 h1 h2 h3 h4 rfl (by decide) v l.length (vp l) h ⟨b, 0, none⟩ 1 1 (vp [p]) rfl ?_ (vp_one _) (by unfold maxLen; omega) (by omega)
  intro j u hu
  rw [Addr.add_mid, Nat.zero_add]
  have : (vp [p])[j]? = (pkC p)[j]? := by
    match j with
    | 0 => rfl
    | 1 => rfl
    | 2 => rfl
    | 3 => rfl
    | j + 4 => simp [vp, pkC]
  rw [this] at hu
  rw [← hu]
  exact cell_of_row w b j _ _ (0, 0) hr
set_option maxRecDepth 20000 in
theorem refTo_any (g : Nat) (v : Value) (s : Lg.Led) (now : Nat) (w : World) (h : RdOk w g v s) :
    Calls Tryz.prog 40 #[.pointer (some ⟨g, 0, none⟩), .int .u64 (now : Int)] w fun e w' => (Lg.timeOk s now ∧ e = .returned (.bool true) ∧ RdOk w' g v { s with now := now } ∧ KeepP (fun k => k = g) w w') ∨ (¬ Lg.timeOk s now ∧ e = .returned (.bool false) ∧ w' = w) := by
  have c4 := h.cells.c4
  have f4 := h.cells.f 4
  have HH := veil h
  clear h
  by_cases h1 : now ≤ 1099511627775
  · have d1 : decide ((1099511627775 : Int) < (now : Int)) = false := by simp; omega
    have d2 : decide (1099511627775 < now) = false := by simp; omega
    by_cases h2 : s.now ≤ now
    · have d3 : decide ((now : Int) < (s.now : Int)) = false := by simp; omega
      have d4 : decide (now < s.now) = false := by simp; omega
      have HT := veil (show Lg.timeOk s now from ⟨h1, h2⟩)
      clear h1 h2
      go_enter Tryz.func40, Tryz.ntmps40
      go_wp2
      go_ret
      exact .inl ⟨HT.out, rfl, ⟨HH.out.row.set 4 _, HH.out.way.same (fun k hk => Below.heap_setCell _ _ _ _ (fun q => HH.out.apart (by rw [show g = k from q.symm]; exact hk)))⟩, keepG g _ _ _⟩
    · have d3 : decide ((now : Int) < (s.now : Int)) = true := by simp; omega
      have d4 : decide (now < s.now) = true := by simp; omega
      have HT := veil (show ¬ Lg.timeOk s now from fun q => h2 q.2)
      clear h1 h2
      go_enter Tryz.func40, Tryz.ntmps40
      go_wp2
      go_ret
      exact .inr ⟨HT.out, rfl, rfl⟩
  · have d1 : decide ((1099511627775 : Int) < (now : Int)) = true := by simp; omega
    have d2 : decide (1099511627775 < now) = true := by simp; omega
    have HT := veil (show ¬ Lg.timeOk s now from fun q => h1 q.1)
    clear h1
    go_enter Tryz.func40, Tryz.ntmps40
    go_wp2
    go_ret
    exact .inr ⟨HT.out, rfl, rfl⟩
end Go.Proofs.YtohoieleakieeaaGreatDoor
