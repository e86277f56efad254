/-
  Out of LrLosP, LrLos.
-/
import Derived.Test.YtohoieleakieeaaGreatDoorGl16
import Derived.Test.YtohoieleakieeaaGreatDoorGl8
import Derived.Deep.QuietTactic
import Derived.BigQuiet

/-! The document's losing: what is lost among the first packets, and its lists in memory. -/
namespace Go.Proofs.YtohoieleakieeaaGreatDoor
open Go Go.RowKit

namespace Lg
def lostTo (s : Led) (now k : Nat) : List Pk := (s.way.take k).filter (lostB s now)
def restTo (s : Led) (now k : Nat) : List Pk := (s.way.take k).filter (fun p => !lostB s now p)
def topTo (s : Led) (now k : Nat) : Nat := maxT ((lostTo s now k).filter (·.asks))
theorem lostTo_yes {s : Led} {now k : Nat} {p : Pk} (h : s.way[k]? = some p) (c : lostB s now p = true) : lostTo s now (k + 1) = lostTo s now k ++ [p] ∧ restTo s now (k + 1) = restTo s now k := by
  unfold lostTo restTo
  rw [List.take_add_one, h, List.filter_append, List.filter_append]
  simp [c]
theorem lostTo_no {s : Led} {now k : Nat} {p : Pk} (h : s.way[k]? = some p) (c : lostB s now p = false) : lostTo s now (k + 1) = lostTo s now k ∧ restTo s now (k + 1) = restTo s now k ++ [p] := by
  unfold lostTo restTo
  rw [List.take_add_one, h, List.filter_append, List.filter_append]
  simp [c]
theorem maxT_append (l : List Pk) (p : Pk) : maxT (l ++ [p]) = max (maxT l) p.time := by
  induction l with
  | nil => simp [maxT]
  | cons x l ih => rw [List.cons_append, maxT, ih, maxT]; omega
theorem maxT_le {l : List Pk} {m : Nat} (h : ∀ p ∈ l, p.time ≤ m) : maxT l ≤ m := by
  induction l with
  | nil => exact Nat.zero_le _
  | cons x l ih => rw [maxT]; exact Nat.max_le.2 ⟨h x (List.mem_cons_self ..), ih (fun p hp => h p (List.mem_cons_of_mem _ hp))⟩
theorem topTo_ask {s : Led} {now k : Nat} {p : Pk} (h : s.way[k]? = some p) (c : lostB s now p = true) (ha : p.asks = true) : topTo s now (k + 1) = max (topTo s now k) p.time := by
  unfold topTo
  rw [(lostTo_yes h c).1, List.filter_append, show [p].filter (·.asks) = [p] by simp [ha], maxT_append]
theorem topTo_not {s : Led} {now k : Nat} {p : Pk} (h : s.way[k]? = some p) (c : lostB s now p = true) (ha : p.asks = false) : topTo s now (k + 1) = topTo s now k := by
  unfold topTo
  rw [(lostTo_yes h c).1, List.filter_append, show [p].filter (·.asks) = [] by simp [ha], List.append_nil]
theorem asks_append (l : List Pk) (p : Pk) : asksB (l ++ [p]) = (asksB l || p.asks) := by
  unfold asksB
  simp
theorem topTo_le {s : Led} {now k m : Nat} (h : ∀ p ∈ s.way, p.time ≤ m) : topTo s now k ≤ m :=
  maxT_le (fun p hp => h p (List.mem_of_mem_take (List.mem_filter.1 (List.mem_filter.1 hp).1).1))
theorem lostTo_len (s : Led) (now k : Nat) : (lostTo s now k).length ≤ s.way.length := Nat.le_trans (List.length_filter_le _ _) (by rw [List.length_take]; omega)
theorem restTo_len (s : Led) (now k : Nat) : (restTo s now k).length ≤ s.way.length := Nat.le_trans (List.length_filter_le _ _) (by rw [List.length_take]; omega)
theorem lostTo_all (s : Led) (now : Nat) : lostTo s now s.way.length = s.way.filter (lostB s now) ∧ restTo s now s.way.length = s.way.filter (fun p => !lostB s now p) := by
  unfold lostTo restTo
  rw [List.take_length]
  exact ⟨rfl, rfl⟩
end Lg

theorem own_type2 {w : World} {B n z : Nat} {e : TypeId} {v : Value} {xs : List Value} (h : w.ownsRow B e z v n xs) {k : Nat} (hk : v.ownBlock = some k) : ∃ cur, w.heap[k]? = some (.cells cur e (0, 0)) := by
  rcases h.2 with ⟨rfl, _⟩ | ⟨g, c, cur, rfl, _, h5, _⟩
  · cases hk
  · injection hk with hk
    subst hk
    exact ⟨cur, h5⟩
/-- A row stays where one of another kind grows. -/
theorem own_stay {W W' : World} {B B' n n' z z' : Nat} {e e' : TypeId} {u v : Value} {xs xs' : List Value} (h : W.ownsRow B e z u n xs) (h' : W.ownsRow B' e' z' v n' xs') (ne : e ≠ e') (hg : W.grownBy W' v.ownBlock) : W'.ownsRow B e z u n xs := by
  obtain ⟨h1, h2⟩ := h
  refine ⟨h1, ?_⟩
  rcases h2 with h2 | ⟨g', c, cur, h3, h4, h5, h6⟩
  · exact .inl h2
  · refine .inr ⟨g', c, cur, h3, h4, (hg.block g' (Array.getElem?_eq_some_iff.1 h5).1 (fun q => ?_)).trans h5, h6⟩
    obtain ⟨cur2, hc2⟩ := own_type2 h' q.symm
    have := h5.symm.trans hc2
    injection this with this
    injection this with _ this
    exact ne this
theorem pr_own (w : World) (ty : TypeId) (base : Nat) (v : Value) (l : List Lg.Pk) (x : Lg.Pk) (b : Nat) (h : w.ownsRow base 80 4 v l.length (vp l)) (hr : Row w b 80 (pkC x)) (hl : l.length ≤ 100000) (hb : base ≤ w.heap.size) :
    ∃ v' w', (Builtin.append_ #[72, 72] ty #[v, .slice (some ⟨b, 0, none⟩) 1 1]).run Tryz.prog w = .ok v' w' ∧ w'.ownsRow base 80 4 v' (l ++ [x]).length (vp (l ++ [x])) ∧ w.grownBy w' v.ownBlock := by
  obtain ⟨i0, h1, h2, h3, h4⟩ := pr_info
  obtain ⟨v', w', a1, a2, a3, _, a4⟩ := run_append_own_at (P := Tryz.prog) w base 72 ty 80 i0 _ 4 32 Tryz.underlying72 h1 h2 h3 h4 rfl (by decide) v l.length (vp l) h ⟨b, 0, none⟩ 1 1 (vp [x]) rfl (fun j u hu => by
    rw [Addr.add_mid, Nat.zero_add]
    have : (vp [x])[j]? = (pkC x)[j]? := by
      match j with
      | 0 => rfl
      | 1 => rfl
      | 2 => rfl
      | 3 => rfl
      | j + 4 => simp [vp, pkC]
    rw [this] at hu
    rw [← hu]
    exact cell_of_row w b j _ _ (0, 0) hr) (vp_one _) (by unfold maxLen; omega) (by omega) hb
  refine ⟨v', w', a1, ?_, a3⟩
  rw [List.length_append, List.length_singleton, vp_append]
  exact a2

/-- Behind k packets. -/
structure LosK (w : World) (s : Lg.Led) (now k : Nat) (ov rv : Value) (W : World) : Prop where
  out : W.ownsRow w.heap.size 23 1 ov (Lg.lostTo s now k).length (vnum ((Lg.lostTo s now k).map (·.num)))
  rest : W.ownsRow w.heap.size 80 4 rv (Lg.restTo s now k).length (vp (Lg.restTo s now k))
  bel : Below w.heap.size w W
theorem LosK.nil (w : World) (s : Lg.Led) (now : Nat) : LosK w s now 0 (.slice none 0 0) (.slice none 0 0) w := by
  refine ⟨?_, ?_, Below.refl _ _⟩
  · exact World.ownsRow_nil _ _ _ _
  · exact World.ownsRow_nil _ _ _ _
theorem LosK.below {w W W1 : World} {s : Lg.Led} {now k : Nat} {ov rv : Value} (h : LosK w s now k ov rv W) (hb : Below W.heap.size W W1) : LosK w s now k ov rv W1 :=
  ⟨own_below2 h.out hb, own_below2 h.rest hb, h.bel.trans (hb.mono h.bel.size)⟩
theorem LosK.keep {w W1 : World} {s : Lg.Led} {now k : Nat} {ov rv : Value} (h : LosK w s now k ov rv W1) {p : Lg.Pk} (hk : s.way[k]? = some p) (hc : Lg.lostB s now p = false) (hl : s.way.length ≤ 2000) (ty : TypeId) :
    ∃ v' w', (Builtin.append_ #[72, 72] ty #[rv, .slice (some ⟨W1.heap.size, 0, none⟩) 1 1]).run Tryz.prog (W1.alloc (.cells (pkC p) 80)) = .ok v' w' ∧ LosK w s now (k + 1) ov v' w' := by
  have h1 := h.below ((Below.refl W1.heap.size W1).alloc (Nat.le_refl _) (.cells (pkC p) 80))
  have hl1 := Lg.restTo_len s now k
  obtain ⟨v', w', a1, a2, a3⟩ := pr_own _ ty w.heap.size rv _ p W1.heap.size h1.rest (Row.new _ _ _) (by omega) h1.bel.size
  refine ⟨v', w', a1, ?_, ?_, h1.bel.trans (below_grown a3 (fun q hq => (h1.rest.lt q hq).1) h1.bel.size)⟩
  · rw [(Lg.lostTo_no hk hc).1]
    exact own_stay h1.out h1.rest (by decide) a3
  · rw [(Lg.lostTo_no hk hc).2]
    exact a2
theorem LosK.lost {w W1 : World} {s : Lg.Led} {now k : Nat} {ov rv : Value} (h : LosK w s now k ov rv W1) {p : Lg.Pk} (hk : s.way[k]? = some p) (hc : Lg.lostB s now p = true) (hl : s.way.length ≤ 2000) (ty : TypeId) :
    ∃ v' w', (Builtin.append_ #[49, 49] ty #[ov, .slice (some ⟨W1.heap.size, 0, none⟩) 1 1]).run Tryz.prog (W1.alloc (.cells #[.int .u64 (p.num : Int)] 23)) = .ok v' w' ∧ LosK w s now (k + 1) v' rv w' ∧ KeepP (fun q => ov.ownBlock = some q) W1 w' := by
  have hb0 := (Below.refl W1.heap.size W1).alloc (Nat.le_refl _) (.cells #[.int .u64 (p.num : Int)] 23)
  have h1 := h.below hb0
  have hl1 := Lg.lostTo_len s now k
  have h2 := h1.out
  rw [show (Lg.lostTo s now k).length = ((Lg.lostTo s now k).map (·.num)).length from (List.length_map ..).symm] at h2
  obtain ⟨v', w', a1, a2, a3, _⟩ := nu_append _ ty w.heap.size ov _ p.num W1.heap.size h2 ((Row.new W1 23 #[.int .u64 (p.num : Int)]).cell 0) (by rw [List.length_map]; omega) h1.bel.size
  refine ⟨v', w', a1, ⟨?_, ?_, h1.bel.trans (below_grown a3 (fun q hq => (h1.out.lt q hq).1) h1.bel.size)⟩, ?_⟩
  · rw [(Lg.lostTo_yes hk hc).1, List.map_append, List.length_append, List.length_singleton]
    rw [List.length_append, List.length_map] at a2
    exact a2
  · rw [(Lg.lostTo_yes hk hc).2]
    exact own_stay h1.rest h1.out (by decide) a3
  · exact (KeepP.of_below hb0).trans ⟨a3.os, a3.tape, a3.output, a3.size, fun q hq hn => a3.block q hq (fun e => hn e.symm)⟩

set_option maxRecDepth 20000 in
set_option maxHeartbeats 1000000 in
theorem refPat_q (g : Nat) (v : Value) (s : Lg.Led) (w : World) (h : Row w g 74 (rdC v s)) (h1 : s.latest ≤ 1099511627775) (h2 : s.smooth ≤ 1099511627775) : Calls Tryz.prog 96 #[.pointer (some ⟨g, 0, none⟩)] w fun e w' => e = .returned (.int .u64 (Lg.patience s : Int)) ∧ ∃ m, w' = w.drewN m := by
  have c0 := (rd_cells h).c7
  have c1 := (rd_cells h).c8
  obtain ⟨k, hk⟩ : ∃ k, max s.smooth s.latest = k := ⟨_, rfl⟩
  obtain ⟨q, hq⟩ : ∃ q, 9 * k / 8 = q := ⟨_, rfl⟩
  obtain ⟨p, hp⟩ : ∃ p, max q 1 = p := ⟨_, rfl⟩
  have e1 : max (s.smooth : Int) (s.latest : Int) = (k : Int) := by omega
  have e2 : IntKind.u64.wrap (9 * (k : Int)) = 9 * (k : Int) := by rw [IntKind.wrap_u64]; omega
  have e3 : Int.tdiv (9 * (k : Int)) 8 = (q : Int) := by rw [Int.tdiv_eq_ediv_of_nonneg (by omega)]; omega
  have e4 : max (q : Int) 1 = (p : Int) := by omega
  have e5 : IntKind.u64.wrap (q : Int) = (q : Int) := by rw [IntKind.wrap_u64]; omega
  have hP : Lg.patience s = p := by unfold Lg.patience; rw [hk, hq, hp]
  rw [hP]
  clear hk hq hp hP h1 h2 h
  go_enter Tryz.func96, Tryz.ntmps96
  go_wp2
  go_region
  go_wp2
  go_ret
  exact ⟨rfl, 1, rfl⟩
set_option maxRecDepth 20000 in
set_option maxHeartbeats 1000000 in
theorem refWait_q (g : Nat) (v : Value) (s : Lg.Led) (w : World) (h : Row w g 74 (rdC v s)) (h1 : s.smooth ≤ 1099511627775) (h2 : s.vary ≤ 1099511627775) : Calls Tryz.prog 45 #[.pointer (some ⟨g, 0, none⟩)] w fun e w' => e = .returned (.int .u64 (Lg.wait s : Int)) ∧ ∃ m, w' = w.drewN m := by
  have c1 := (rd_cells h).c8
  have c2 := (rd_cells h).c9
  obtain ⟨p, hp⟩ : ∃ p, max (4 * s.vary) 1 = p := ⟨_, rfl⟩
  obtain ⟨z, hz⟩ : ∃ z, Lg.wait s = z := ⟨_, rfl⟩
  have hz' := hz
  unfold Lg.wait at hz'
  rw [hp] at hz'
  have e2 : IntKind.u64.wrap (4 * (s.vary : Int)) = 4 * (s.vary : Int) := by rw [IntKind.wrap_u64]; omega
  have e4 : max (4 * (s.vary : Int)) 1 = (p : Int) := by omega
  have e5 : IntKind.u64.wrap ((s.smooth : Int) + (p : Int)) = (s.smooth : Int) + (p : Int) := by rw [IntKind.wrap_u64]; omega
  have e6 : IntKind.u64.wrap ((s.smooth : Int) + (p : Int) + 25) = (z : Int) := by rw [IntKind.wrap_u64]; omega
  rw [hz]
  clear hp hz hz' h1 h2 h
  go_enter Tryz.func45, Tryz.ntmps45
  go_wp2
  go_region
  go_wp2
  go_ret
  exact ⟨rfl, 1, rfl⟩
end Go.Proofs.YtohoieleakieeaaGreatDoor

/-! Written by mklrlos.py: the document's losing. -/
namespace Go.Proofs.YtohoieleakieeaaGreatDoor
open Go Go.RowKit

theorem wpL_appendX {P : Program} {ops : Array Oper} {rest : List Oper} {o : Oper} {a : Act} {w : World} {Q : Exit → Act → World → Prop} {X : Value → World → Prop} (hgd : o.guard = none) (s y : Operand) (ts : Array TypeId) (ho : o.op = .call { callee := .builtin .append, args := #[s, y], argTypes := ts })
    (v u : Value) (hs : a.eval s = v) (hy : a.eval y = u) (h : ∃ v' W', (Builtin.append_ ts o.type #[v, u]).run P w = .ok v' W' ∧ X v' W') (k : ∀ v' W', X v' W' → wpList P ops Q rest (a.put o.dst v') W') : wpList P ops Q (o :: rest) a w := by
  obtain ⟨v', W', h1, h2⟩ := h
  exact wpL_append hgd s y ts ho v u v' W' hs hy h1 (k v' W' h2)
theorem lost_not0 {s : Lg.Led} {now : Nat} {p : Lg.Pk} (h : s.fronted = false) : Lg.lostB s now p = false := by unfold Lg.lostB; rw [h]; rfl
theorem lost_not1 {s : Lg.Led} {now : Nat} {p : Lg.Pk} (h : s.front ≤ p.num) : Lg.lostB s now p = false := by unfold Lg.lostB; rw [show decide (p.num < s.front) = false by simp; omega]; simp
theorem lost_not2 {s : Lg.Led} {now : Nat} {p : Lg.Pk} (h : s.front - p.num < 3) (h2 : now < p.time + Lg.patience s) : Lg.lostB s now p = false := by
  unfold Lg.lostB
  rw [show decide (3 ≤ s.front - p.num) = false by simp; omega, show decide (p.time + Lg.patience s ≤ now) = false by simp; omega]
  simp
theorem lost_yes1 {s : Lg.Led} {now : Nat} {p : Lg.Pk} (h0 : s.fronted = true) (h1 : p.num < s.front) (h : 3 ≤ s.front - p.num) : Lg.lostB s now p = true := by
  unfold Lg.lostB
  rw [h0, decide_eq_true h1, decide_eq_true h]
  rfl
theorem lost_yes2 {s : Lg.Led} {now : Nat} {p : Lg.Pk} (h0 : s.fronted = true) (h1 : p.num < s.front) (h : p.time + Lg.patience s ≤ now) : Lg.lostB s now p = true := by
  unfold Lg.lostB
  rw [h0, decide_eq_true h1, decide_eq_true h]
  simp
/-- What a round of a packet that is kept leaves. -/
theorem los_keep {w wr : World} {s : Lg.Led} {now k : Nat} {ov rv : Value} (h : LosK w s now k ov rv wr) {p : Lg.Pk} (hk : s.way[k]? = some p) (hc : Lg.lostB s now p = false) (hl : s.way.length ≤ 2000) :
    ∀ n, ∃ v' w', (Builtin.append_ #[72, 72] 72 #[rv, .slice (some ⟨wr.heap.size + 1, 0, none⟩) 1 1]).run Tryz.prog ((wr.alloc (.cells #[.int .u64 (p.num : Int), .int .i64 (p.size : Int), .int .u64 (p.time : Int), .bool p.asks] 80)).drewN n |>.alloc (.cells #[.int .u64 (p.num : Int), .int .i64 (p.size : Int), .int .u64 (p.time : Int), .bool p.asks] 80)) = .ok v' w' ∧ LosK w s now (k + 1) ov v' w' := by
  intro n
  have hb := below_drewN ((Below.refl wr.heap.size wr).alloc (Nat.le_refl _) (.cells #[.int .u64 (p.num : Int), .int .i64 (p.size : Int), .int .u64 (p.time : Int), .bool p.asks] 80)) n
  have := (h.below hb).keep hk hc hl 72
  rw [show ((wr.alloc (.cells #[.int .u64 (p.num : Int), .int .i64 (p.size : Int), .int .u64 (p.time : Int), .bool p.asks] 80)).drewN n).heap.size = wr.heap.size + 1 from by show (wr.alloc (.cells #[.int .u64 (p.num : Int), .int .i64 (p.size : Int), .int .u64 (p.time : Int), .bool p.asks] 80)).heap.size = _; simp] at this
  exact this
theorem los_lost {w wr : World} {s : Lg.Led} {now k : Nat} {ov rv : Value} (h : LosK w s now k ov rv wr) {p : Lg.Pk} (hk : s.way[k]? = some p) (hc : Lg.lostB s now p = true) (hl : s.way.length ≤ 2000) :
    ∀ n, ∃ v' w', (Builtin.append_ #[49, 49] 49 #[ov, .slice (some ⟨wr.heap.size + 1, 0, none⟩) 1 1]).run Tryz.prog ((wr.alloc (.cells #[.int .u64 (p.num : Int), .int .i64 (p.size : Int), .int .u64 (p.time : Int), .bool p.asks] 80)).drewN n |>.alloc (.cells #[.int .u64 (p.num : Int)] 23)) = .ok v' w' ∧ (LosK w s now (k + 1) v' rv w' ∧ w'.cell? ⟨wr.heap.size, 2, none⟩ = some (.int .u64 (p.time : Int)) ∧ w'.cell? ⟨wr.heap.size, 3, none⟩ = some (.bool p.asks)) := by
  intro n
  have hb := below_drewN ((Below.refl wr.heap.size wr).alloc (Nat.le_refl _) (.cells #[.int .u64 (p.num : Int), .int .i64 (p.size : Int), .int .u64 (p.time : Int), .bool p.asks] 80)) n
  obtain ⟨v', w', a1, a2, a3⟩ := (h.below hb).lost hk hc hl 49
  have hz : ((wr.alloc (.cells #[.int .u64 (p.num : Int), .int .i64 (p.size : Int), .int .u64 (p.time : Int), .bool p.asks] 80)).drewN n).heap.size = wr.heap.size + 1 := by show (wr.alloc (.cells #[.int .u64 (p.num : Int), .int .i64 (p.size : Int), .int .u64 (p.time : Int), .bool p.asks] 80)).heap.size = _; simp
  rw [hz] at a1
  have hr : Row ((wr.alloc (.cells #[.int .u64 (p.num : Int), .int .i64 (p.size : Int), .int .u64 (p.time : Int), .bool p.asks] 80)).drewN n) wr.heap.size 80 #[.int .u64 (p.num : Int), .int .i64 (p.size : Int), .int .u64 (p.time : Int), .bool p.asks] := Row.new wr _ _
  have hr2 := a3.row hr (fun q => by have := (h.out.lt _ q).2; omega)
  exact ⟨v', w', a1, a2, hr2.cell 2, hr2.cell 3⟩

set_option maxRecDepth 20000 in
set_option maxHeartbeats 4000000 in
theorem refLosing_any (g : Nat) (v : Value) (s : Lg.Led) (now c : Nat) (w : World) (h : RdOk w g v s) (hf : Lg.Fit c s) (hc : c ≤ 2000) (hn : now ≤ 1099511627775) :
    Calls Tryz.prog 37 #[.pointer (some ⟨g, 0, none⟩), .int .u64 (now : Int)] w fun e w' => ∃ u v', e = .returned u ∧ w'.ownsRow w.heap.size 23 1 u (Lg.lostL s now).length (vnum (Lg.lostL s now)) ∧ RdOk w' g v' (Lg.losing s now) ∧ KeepP (fun k => k = g) w w' ∧ (∀ k, v'.ownBlock = some k → w.heap.size ≤ k) := by
  obtain ⟨N, hN⟩ : ∃ N, s.way.length = N := ⟨_, rfl⟩
  have hN2 : N ≤ 2000 := by rw [← hN]; exact Nat.le_trans hf.cnt hc
  obtain ⟨va, vc, hva, _, _⟩ := h.way.shape
  rw [hN] at hva
  subst hva
  have HH := veil h
  have HF := veil hf
  have HN := veil hN
  have HC := veil hc
  have HNW := veil hn
  have HGL := veil h.lt
  clear h hf hN hc hn
  go_enter Tryz.func37, Tryz.ntmps37
  go_wp2_with fail
  go_loopw [5, 6, 7, 8, 9] (fun ov rv tv av iv wr => ∃ (k : Nat) (o r : Value), k ≤ N ∧ iv = .int .i64 k ∧ ov = o ∧ rv = r ∧ tv = .int .u64 (Lg.topTo s now k : Int) ∧ av = .bool (Lg.asksB (Lg.lostTo s now k)) ∧ LosK w s now k o r wr)
    (fun _ _ _ _ iv _ => N - (intOf iv).toNat)
  case atStart => exact ⟨0, _, _, Nat.zero_le _, rfl, rfl, rfl, rfl, rfl, LosK.nil _ _ _⟩
  case round =>
    obtain ⟨k, o, r, hk, rfl, ho, hr, rfl, rfl, hK⟩ := hrel
    symm at ho hr
    subst ho hr
    have hrd := HH.out.below (hK.bel.mono (Nat.le_refl _))
    have c0 := hrd.cells.c0
    by_cases hlt : k < N
    · obtain ⟨p, hget⟩ : ∃ p, s.way[k]? = some p := ⟨_, List.getElem?_eq_getElem (by rw [HN.out]; exact hlt)⟩
      have hway := hrd.way
      rw [HN.out] at hway
      obtain ⟨gb, oo, rfl, _, x0, x1, x2, x3⟩ := way_at hway hget
      have hpm := List.mem_of_getElem? hget
      have hb1 := (Below.refl wr.heap.size wr).alloc (Nat.le_refl _) (.cells #[.int .u64 (p.num : Int), .int .i64 (p.size : Int), .int .u64 (p.time : Int), .bool p.asks] 80)
      have hrd1 := hrd.below hb1
      have c5 := hrd1.cells.c5
      have c6 := hrd1.cells.c6
      have ROW := veil (show ∀ n, Row ((wr.alloc (.cells #[.int .u64 (p.num : Int), .int .i64 (p.size : Int), .int .u64 (p.time : Int), .bool p.asks] 80)).drewN n) g 74 (rdC (.slice (some ⟨gb, oo, none⟩) N vc) s) from fun n => hrd1.row)
      have HL := veil (show s.way.length ≤ 2000 by rw [HN.out]; exact hN2)
      have tb : p.time ≤ 1099511627775 := Nat.le_trans (HF.out.time p hpm) HF.out.now
      have fb := HF.out.front
      have pb := HF.out.patience
      have nb := HNW.out
      have tt := Lg.topTo_le (s := s) (now := now) (k := k) (m := 1099511627775) (fun q hq => Nat.le_trans (HF.out.time q hq) HF.out.now)
      have dd : decide ((k : Int) < (N : Int)) = true := by simp; omega
      have dn : decide (k < N) = true := by simp; omega
      have HLt := veil hlt
      have HGET := veil hget
      have HK := veil hK
      clear hK hrd hway hb1 hrd1 hget hpm hlt
      cases hfr : s.fronted
      · have hlb := lost_not0 (now := now) (p := p) hfr
        rw [hfr] at c6
        clear c5
        have HTQ := veil (show Lg.topTo s now (k + 1) = Lg.topTo s now k by unfold Lg.topTo; rw [(Lg.lostTo_no HGET.out hlb).1])
        have KEEP := veil (los_keep HK.out HGET.out hlb HL.out)
        have HL2 := veil (Lg.lostTo_no HGET.out hlb).1
        generalize Lg.topTo s now k = tq at *
        clear HK hlb
        clear hfr
        go_wp2_with fail
        go_quiet ((go_at_call 96; exact Calls.quiet_of (refPat_q g _ s _ (ROW.out _) HF.out.lat HF.out.smo)))
        go_wp2_with (with_reducible (show wpList _ _ _ (⟨some 63, Op.call _, _, _, _, _⟩ :: _) _ _)
                     refine wpL_appendX rfl _ _ _ rfl _ _ rfl rfl (KEEP.out _) ?_
                     intro v2 w2 HK2)
        go_roundw
        case rel => exact ⟨k + 1, _, _, by have := HLt.out; omega, by go_num, rfl, rfl, by rw [HTQ.out], by rw [HL2.out], HK2⟩
        case measure => have := HLt.out; simp [intOf]; omega
      · rw [hfr] at c6
        by_cases h1 : s.front ≤ p.num
        · have hlb := lost_not1 (now := now) h1
          have d1 : decide ((s.front : Int) ≤ (p.num : Int)) = true := by simp; omega
          have d2 : decide (s.front ≤ p.num) = true := by simp; omega
          have HTQ := veil (show Lg.topTo s now (k + 1) = Lg.topTo s now k by unfold Lg.topTo; rw [(Lg.lostTo_no HGET.out hlb).1])
          have KEEP := veil (los_keep HK.out HGET.out hlb HL.out)
          have HL2 := veil (Lg.lostTo_no HGET.out hlb).1
          generalize Lg.topTo s now k = tq at *
          clear HK hlb
          clear hfr h1
          go_wp2_with fail
          go_quiet ((go_at_call 96; exact Calls.quiet_of (refPat_q g _ s _ (ROW.out _) HF.out.lat HF.out.smo)))
          go_wp2_with (with_reducible (show wpList _ _ _ (⟨some 63, Op.call _, _, _, _, _⟩ :: _) _ _)
                       refine wpL_appendX rfl _ _ _ rfl _ _ rfl rfl (KEEP.out _) ?_
                       intro v2 w2 HK2)
          go_roundw
          case rel => exact ⟨k + 1, _, _, by have := HLt.out; omega, by go_num, rfl, rfl, by rw [HTQ.out], by rw [HL2.out], HK2⟩
          case measure => have := HLt.out; simp [intOf]; omega
        · have d1 : decide ((s.front : Int) ≤ (p.num : Int)) = false := by simp; omega
          have d2 : decide (s.front ≤ p.num) = false := by simp; omega
          obtain ⟨d, hd⟩ : ∃ d, s.front - p.num = d := ⟨_, rfl⟩
          have e1 : IntKind.u64.wrap ((s.front : Int) - (p.num : Int)) = (d : Int) := by rw [IntKind.wrap_u64]; omega
          by_cases h2 : d < 3
          · have d3 : decide ((d : Int) < 3) = true := by simp; omega
            have d4 : decide (d < 3) = true := by simp; omega
            obtain ⟨tp, htp⟩ : ∃ tp, p.time + Lg.patience s = tp := ⟨_, rfl⟩
            have e2 : IntKind.u64.wrap ((p.time : Int) + (Lg.patience s : Int)) = (tp : Int) := by rw [IntKind.wrap_u64]; omega
            by_cases h3 : now < tp
            · have hlb := lost_not2 (s := s) (now := now) (p := p) (by omega) (by omega)
              have d5 : decide ((now : Int) < (tp : Int)) = true := by simp; omega
              have d6 : decide (now < tp) = true := by simp; omega
              have HTQ := veil (show Lg.topTo s now (k + 1) = Lg.topTo s now k by unfold Lg.topTo; rw [(Lg.lostTo_no HGET.out hlb).1])
              have KEEP := veil (los_keep HK.out HGET.out hlb HL.out)
              have HL2 := veil (Lg.lostTo_no HGET.out hlb).1
              generalize Lg.topTo s now k = tq at *
              clear HK hlb
              clear hfr h1 h2 h3 hd htp
              go_wp2_with fail
              go_quiet ((go_at_call 96; exact Calls.quiet_of (refPat_q g _ s _ (ROW.out _) HF.out.lat HF.out.smo)))
              go_wp2_with (with_reducible (show wpList _ _ _ (⟨some 63, Op.call _, _, _, _, _⟩ :: _) _ _)
                           refine wpL_appendX rfl _ _ _ rfl _ _ rfl rfl (KEEP.out _) ?_
                           intro v2 w2 HK2)
              go_roundw
              case rel => exact ⟨k + 1, _, _, by have := HLt.out; omega, by go_num, rfl, rfl, by rw [HTQ.out], by rw [HL2.out], HK2⟩
              case measure => have := HLt.out; simp [intOf]; omega
            · have hlb := lost_yes2 (s := s) (now := now) (p := p) hfr (by omega) (by omega)
              have d5 : decide ((now : Int) < (tp : Int)) = false := by simp; omega
              have d6 : decide (now < tp) = false := by simp; omega
              have LOST := veil (los_lost HK.out HGET.out hlb HL.out)
              have HAS := veil (show Lg.asksB (Lg.lostTo s now (k + 1)) = (Lg.asksB (Lg.lostTo s now k) || p.asks) by rw [(Lg.lostTo_yes HGET.out hlb).1, Lg.asks_append])
              cases hpa : p.asks
              · have HTQ := veil (Lg.topTo_not HGET.out hlb hpa)
                rw [hpa, Bool.or_false] at HAS
                rw [hpa] at LOST x3 ROW
                rw [hpa] at c5 c6
                generalize Lg.topTo s now k = tq at *
                generalize Lg.asksB (Lg.lostTo s now k) = aq at *
                clear HK hlb hpa HGET
                clear hfr h1 h2 h3 hd htp
                go_wp2_with fail
                go_quiet ((go_at_call 96; exact Calls.quiet_of (refPat_q g _ s _ (ROW.out _) HF.out.lat HF.out.smo)))
                go_wp2_with (with_reducible (show wpList _ _ _ (⟨some 68, Op.call _, _, _, _, _⟩ :: _) _ _)
                             refine wpL_appendX rfl _ _ _ rfl _ _ rfl rfl (LOST.out _) ?_
                             rintro v2 w2 ⟨HK2, y2, y3⟩)
                go_roundw
                case rel => exact ⟨k + 1, _, _, by have := HLt.out; omega, by go_num, rfl, rfl, by rw [HTQ.out], by rw [HAS.out], HK2⟩
                case measure => have := HLt.out; simp [intOf]; omega
              · obtain ⟨t2, ht2⟩ : ∃ t2, Lg.topTo s now (k + 1) = t2 := ⟨_, rfl⟩
                have HTQ := veil ht2
                have m1 : max (Lg.topTo s now k : Int) (p.time : Int) = (t2 : Int) := by have := Lg.topTo_ask HGET.out hlb hpa; omega
                clear ht2
                rw [hpa, Bool.or_true] at HAS
                rw [hpa] at LOST x3 ROW
                rw [hpa] at c5 c6
                generalize Lg.topTo s now k = tq at *
                generalize Lg.asksB (Lg.lostTo s now k) = aq at *
                clear HK hlb hpa HGET
                clear hfr h1 h2 h3 hd htp
                go_wp2_with fail
                go_quiet ((go_at_call 96; exact Calls.quiet_of (refPat_q g _ s _ (ROW.out _) HF.out.lat HF.out.smo)))
                go_wp2_with (with_reducible (show wpList _ _ _ (⟨some 68, Op.call _, _, _, _, _⟩ :: _) _ _)
                             refine wpL_appendX rfl _ _ _ rfl _ _ rfl rfl (LOST.out _) ?_
                             rintro v2 w2 ⟨HK2, y2, y3⟩)
                go_roundw
                case rel => exact ⟨k + 1, _, _, by have := HLt.out; omega, by go_num, rfl, rfl, by rw [HTQ.out], by rw [HAS.out], HK2⟩
                case measure => have := HLt.out; simp [intOf]; omega
          · have hlb := lost_yes1 (s := s) (now := now) (p := p) hfr (by omega) (by omega)
            have d3 : decide ((d : Int) < 3) = false := by simp; omega
            have d4 : decide (d < 3) = false := by simp; omega
            have LOST := veil (los_lost HK.out HGET.out hlb HL.out)
            have HAS := veil (show Lg.asksB (Lg.lostTo s now (k + 1)) = (Lg.asksB (Lg.lostTo s now k) || p.asks) by rw [(Lg.lostTo_yes HGET.out hlb).1, Lg.asks_append])
            cases hpa : p.asks
            · have HTQ := veil (Lg.topTo_not HGET.out hlb hpa)
              rw [hpa, Bool.or_false] at HAS
              rw [hpa] at LOST x3 ROW
              rw [hpa] at c5 c6
              generalize Lg.topTo s now k = tq at *
              generalize Lg.asksB (Lg.lostTo s now k) = aq at *
              clear HK hlb hpa HGET
              clear hfr h1 h2 hd
              go_wp2_with fail
              go_quiet ((go_at_call 96; exact Calls.quiet_of (refPat_q g _ s _ (ROW.out _) HF.out.lat HF.out.smo)))
              go_wp2_with (with_reducible (show wpList _ _ _ (⟨some 68, Op.call _, _, _, _, _⟩ :: _) _ _)
                           refine wpL_appendX rfl _ _ _ rfl _ _ rfl rfl (LOST.out _) ?_
                           rintro v2 w2 ⟨HK2, y2, y3⟩)
              go_roundw
              case rel => exact ⟨k + 1, _, _, by have := HLt.out; omega, by go_num, rfl, rfl, by rw [HTQ.out], by rw [HAS.out], HK2⟩
              case measure => have := HLt.out; simp [intOf]; omega
            · obtain ⟨t2, ht2⟩ : ∃ t2, Lg.topTo s now (k + 1) = t2 := ⟨_, rfl⟩
              have HTQ := veil ht2
              have m1 : max (Lg.topTo s now k : Int) (p.time : Int) = (t2 : Int) := by have := Lg.topTo_ask HGET.out hlb hpa; omega
              clear ht2
              rw [hpa, Bool.or_true] at HAS
              rw [hpa] at LOST x3 ROW
              rw [hpa] at c5 c6
              generalize Lg.topTo s now k = tq at *
              generalize Lg.asksB (Lg.lostTo s now k) = aq at *
              clear HK hlb hpa HGET
              clear hfr h1 h2 hd
              go_wp2_with fail
              go_quiet ((go_at_call 96; exact Calls.quiet_of (refPat_q g _ s _ (ROW.out _) HF.out.lat HF.out.smo)))
              go_wp2_with (with_reducible (show wpList _ _ _ (⟨some 68, Op.call _, _, _, _, _⟩ :: _) _ _)
                           refine wpL_appendX rfl _ _ _ rfl _ _ rfl rfl (LOST.out _) ?_
                           rintro v2 w2 ⟨HK2, y2, y3⟩)
              go_roundw
              case rel => exact ⟨k + 1, _, _, by have := HLt.out; omega, by go_num, rfl, rfl, by rw [HTQ.out], by rw [HAS.out], HK2⟩
              case measure => have := HLt.out; simp [intOf]; omega
    · obtain rfl : k = N := by omega
      have hAll := Lg.lostTo_all s now
      rw [HN.out] at hAll
      have ho := hK.out
      have hr := hK.rest
      have hwin := HF.out.winL
      have hwiu := HF.out.winU
      have hcc := HC.out
      have c12 := hrd.cells.c12
      have c13 := hrd.cells.c13
      have c14 := hrd.cells.c14
      have c15 := hrd.cells.c15
      have f0 := hrd.cells.f 0
      have f12 := hrd.cells.f 12
      have f13 := hrd.cells.f 13
      have f14 := hrd.cells.f 14
      have f15 := hrd.cells.f 15
      obtain ⟨ra, rc, hrs, _, _⟩ := (RowO.of_own hr).shape
      obtain ⟨oa, oc, hos, _, _⟩ := (RowO.of_own ho).shape
      obtain ⟨rn, hrn⟩ : ∃ rn, (Lg.restTo s now k).length = rn := ⟨_, rfl⟩
      obtain ⟨on, hon⟩ : ∃ on, (Lg.lostTo s now k).length = on := ⟨_, rfl⟩
      rw [hrn] at hrs
      rw [hon] at hos
      have hLL : Lg.lostL s now = (Lg.lostTo s now k).map (·.num) := by unfold Lg.lostL; rw [hAll.1]
      have hOUT : ∀ W', KeepP (fun q => q = g) wr W' → W'.ownsRow w.heap.size 23 1 o (Lg.lostL s now).length (vnum (Lg.lostL s now)) := fun W' hk2 => by
        rw [hLL, List.length_map]
        obtain ⟨h1, h2⟩ := ho
        refine ⟨h1, ?_⟩
        rcases h2 with h2 | ⟨g', c', cur, h3, h4, h5, h6⟩
        · exact .inl h2
        · exact .inr ⟨g', c', cur, h3, h4, (hk2.block g' (Array.getElem?_eq_some_iff.1 h5).1 (fun q => by have := HGL.out; omega)).trans h5, h6⟩
      have hREST : ∀ W', KeepP (fun q => q = g) wr W' → RowO W' 80 4 r (s.way.filter (fun p => !Lg.lostB s now p)).length (vp (s.way.filter (fun p => !Lg.lostB s now p))) := fun W' hk2 => by
        rw [← hAll.2]
        exact (RowO.of_own hr).same (fun q hq => hk2.block q (hr.lt q hq).2 (fun e => by have := (hr.lt q hq).1; have := HGL.out; omega))
      have HVB := veil (show ∀ q, r.ownBlock = some q → w.heap.size ≤ q from fun q hq => (hr.lt q hq).1)
      have hbel := hK.bel
      have HKP := veil (show ∀ W', KeepP (fun q => q = g) wr W' → KeepP (fun q => q = g) w W' from fun W' hk2 => (KeepP.of_below hbel).trans hk2)
      have HOUT := veil hOUT
      have HREST := veil hREST
      have HROW := veil hrd.row
      have HCUT := veil (show Lg.cutB s now = (Lg.asksB (Lg.lostTo s now k) && (!s.moments || decide (s.moment < Lg.topTo s now k))) by unfold Lg.cutB Lg.topTo; rw [hAll.1])
      have dd : decide ((k : Int) < (k : Int)) = false := by simp
      have dn : decide (k < k) = false := by simp
      clear hOUT hREST hLL ho hr hK hrd hAll hrn hon hk hlt hN2
      subst hrs hos
      generalize Lg.topTo s now k = tq at *
      cases has : Lg.asksB (Lg.lostTo s now k)
      · rw [has, Bool.false_and] at HCUT
        clear has
        go_wp2
        go_ret
        have hl8 : Lg.losing s now = { s with way := s.way.filter (fun p => !Lg.lostB s now p) } := by unfold Lg.losing; rw [HCUT.out]; rfl
        rw [hl8]
        exact ⟨_, _, rfl, HOUT.out _ (keepG g _ 0 _), ⟨HROW.out.set 0 _, HREST.out _ (keepG g _ 0 _)⟩, HKP.out _ (keepG g _ 0 _), HVB.out⟩
      · rw [has, Bool.true_and] at HCUT
        clear has
        cases hmm : s.moments
        · rw [hmm] at c15 HCUT
          simp only [Bool.not_false, Bool.true_or] at HCUT
          clear hmm
          obtain ⟨q2, hq2⟩ : ∃ q, s.win / 2 = q := ⟨_, rfl⟩
          obtain ⟨q3, hq3⟩ : ∃ q, max q2 2400 = q := ⟨_, rfl⟩
          have e1 : Int.tdiv (s.win : Int) 2 = (q2 : Int) := by rw [Int.tdiv_eq_ediv_of_nonneg (by omega)]; omega
          have e2 : IntKind.i64.wrap (q2 : Int) = (q2 : Int) := by rw [IntKind.wrap_i64]; omega
          have e3 : max (q2 : Int) 2400 = (q3 : Int) := by omega
          have HQ2 := veil hq2
          have HQ3 := veil hq3
          clear hq2 hq3
          go_wp2
          go_ret
          have hl8 : Lg.losing s now = { s with way := s.way.filter (fun p => !Lg.lostB s now p), moments := true, moment := now, thr := ((s.win / 2 : Nat) : Int), win := max (s.win / 2) 2400 } := by unfold Lg.losing; rw [HCUT.out]; rfl
          rw [hl8, HQ2.out, HQ3.out]
          have hkk : ∀ (W : World) (z0 z1 z2 z3 z4 : Value), KeepP (fun q => q = g) W (((((W.setCell ⟨g, 0, none⟩ z0).setCell ⟨g, 15, none⟩ z1).setCell ⟨g, 14, none⟩ z2).setCell ⟨g, 13, none⟩ z3).setCell ⟨g, 12, none⟩ z4) := fun W z0 z1 z2 z3 z4 => ((((keepG g _ _ _).trans (keepG g _ _ _)).trans (keepG g _ _ _)).trans (keepG g _ _ _)).trans (keepG g _ _ _)
          exact ⟨_, _, rfl, HOUT.out _ (hkk _ _ _ _ _ _), ⟨((((HROW.out.set 0 _).set 15 _).set 14 _).set 13 _).set 12 _, HREST.out _ (hkk _ _ _ _ _ _)⟩, HKP.out _ (hkk _ _ _ _ _ _), HVB.out⟩
        · rw [hmm] at c15 HCUT
          simp only [Bool.not_true, Bool.false_or] at HCUT
          by_cases hgt : s.moment < tq
          · have d1 : decide ((s.moment : Int) < (tq : Int)) = true := by simp; omega
            have d2 : decide (s.moment < tq) = true := by simp; omega
            rw [d2] at HCUT
            clear hmm hgt
            obtain ⟨q2, hq2⟩ : ∃ q, s.win / 2 = q := ⟨_, rfl⟩
            obtain ⟨q3, hq3⟩ : ∃ q, max q2 2400 = q := ⟨_, rfl⟩
            have e1 : Int.tdiv (s.win : Int) 2 = (q2 : Int) := by rw [Int.tdiv_eq_ediv_of_nonneg (by omega)]; omega
            have e2 : IntKind.i64.wrap (q2 : Int) = (q2 : Int) := by rw [IntKind.wrap_i64]; omega
            have e3 : max (q2 : Int) 2400 = (q3 : Int) := by omega
            have HQ2 := veil hq2
            have HQ3 := veil hq3
            clear hq2 hq3
            go_wp2
            go_ret
            have hl8 : Lg.losing s now = { s with way := s.way.filter (fun p => !Lg.lostB s now p), moments := true, moment := now, thr := ((s.win / 2 : Nat) : Int), win := max (s.win / 2) 2400 } := by unfold Lg.losing; rw [HCUT.out]; rfl
            rw [hl8, HQ2.out, HQ3.out]
            have hkk : ∀ (W : World) (z0 z1 z2 z3 z4 : Value), KeepP (fun q => q = g) W (((((W.setCell ⟨g, 0, none⟩ z0).setCell ⟨g, 15, none⟩ z1).setCell ⟨g, 14, none⟩ z2).setCell ⟨g, 13, none⟩ z3).setCell ⟨g, 12, none⟩ z4) := fun W z0 z1 z2 z3 z4 => ((((keepG g _ _ _).trans (keepG g _ _ _)).trans (keepG g _ _ _)).trans (keepG g _ _ _)).trans (keepG g _ _ _)
            exact ⟨_, _, rfl, HOUT.out _ (hkk _ _ _ _ _ _), ⟨((((HROW.out.set 0 _).set 15 _).set 14 _).set 13 _).set 12 _, HREST.out _ (hkk _ _ _ _ _ _)⟩, HKP.out _ (hkk _ _ _ _ _ _), HVB.out⟩
          · have d1 : decide ((s.moment : Int) < (tq : Int)) = false := by simp; omega
            have d2 : decide (s.moment < tq) = false := by simp; omega
            rw [d2] at HCUT
            clear hmm hgt
            go_wp2
            go_ret
            have hl8 : Lg.losing s now = { s with way := s.way.filter (fun p => !Lg.lostB s now p) } := by unfold Lg.losing; rw [HCUT.out]; rfl
            rw [hl8]
            exact ⟨_, _, rfl, HOUT.out _ (keepG g _ 0 _), ⟨HROW.out.set 0 _, HREST.out _ (keepG g _ 0 _)⟩, HKP.out _ (keepG g _ 0 _), HVB.out⟩
end Go.Proofs.YtohoieleakieeaaGreatDoor
