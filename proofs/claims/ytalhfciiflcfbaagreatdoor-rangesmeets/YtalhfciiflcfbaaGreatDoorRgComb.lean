/-
  What ranges.combine answers.
-/
import Derived.Test.YtalhfciiflcfbaaGreatDoorRgTurns
import Derived.Test.YtalhfciiflcfbaaGreatDoorRgVr
namespace Go.Proofs.YtalhfciiflcfbaaGreatDoor
open Go Go.RowKit Go.Shelf
attribute [local go_sem] Oper.semAt_some

/-- What lies in the call's variables while two sets are gone through. -/
structure Cst (w : World) (q : Nat) (fv ov : Value) (ins : Bool) (W : World) : Prop where
  rf : Row W w.heap.size 58 #[fv]
  r0 : Row W (w.heap.size + 1) 22 #[.slice none 0 0]
  r1 : Row W (w.heap.size + 1 + 1) 28 #[.int .i64 0]
  ro : Row W q 22 #[ov]
  ri : Row W (q + 1) 4 #[.bool ins]
  bel : Below w.heap.size w W
theorem KeepP.rowP {st : Nat → Prop} {W W' : World} {g : Nat} {t : TypeId} {cs : Array Value} (h : KeepP st W W') (hr : Row W g t cs) (hg : ¬ st g) : Row W' g t cs := (h.block g hr.lt hg).trans hr
theorem Cst.keep {w W W' : World} {q : Nat} {fv ov : Value} {ins : Bool} (h : Cst w q fv ov ins W) (hq : w.heap.size + 3 ≤ q) {l : Nat} (hl : q + 2 ≤ l) (k : KeepP (fun k => k = l) W W') : Cst w q fv ov ins W' :=
  ⟨k.rowP h.rf (by show ¬ _ = l; omega), k.rowP h.r0 (by show ¬ _ = l; omega), k.rowP h.r1 (by show ¬ _ = l; omega), k.rowP h.ro (by show ¬ _ = l; omega), k.rowP h.ri (by show ¬ _ = l; omega), h.bel.trans (k.below (B := w.heap.size) (fun k e => by have := h.bel.size; rw [e]; omega) h.bel.size)⟩
theorem Cst.below {w W W' : World} {q : Nat} {fv ov : Value} {ins : Bool} (h : Cst w q fv ov ins W) (k : Below W.heap.size W W') : Cst w q fv ov ins W' :=
  ⟨h.rf.below k h.rf.lt, h.r0.below k h.r0.lt, h.r1.below k h.r1.lt, h.ro.below k h.ro.lt, h.ri.below k h.ri.lt, h.bel.trans (k.mono h.bel.size)⟩
theorem Cst.setIns {w W : World} {q : Nat} {fv ov : Value} {ins : Bool} (h : Cst w q fv ov ins W) (hq : w.heap.size + 3 ≤ q) (b : Bool) : Cst w q fv ov b (W.setCell ⟨q + 1, 0, none⟩ (.bool b)) :=
  ⟨h.rf.other (a := ⟨q + 1, 0, none⟩) (show w.heap.size ≠ q + 1 by omega) _, h.r0.other (a := ⟨q + 1, 0, none⟩) (show w.heap.size + 1 ≠ q + 1 by omega) _, h.r1.other (a := ⟨q + 1, 0, none⟩) (show w.heap.size + 1 + 1 ≠ q + 1 by omega) _, h.ro.other (a := ⟨q + 1, 0, none⟩) (show q ≠ q + 1 by omega) _, h.ri.set 0 _, h.bel.setCell (p := ⟨q + 1, 0, none⟩) (by show w.heap.size ≤ q + 1; omega) _⟩
theorem Cst.setOut {w W : World} {q : Nat} {fv ov : Value} {ins : Bool} (h : Cst w q fv ov ins W) (hq : w.heap.size + 3 ≤ q) (v : Value) : Cst w q fv v ins (W.setCell ⟨q, 0, none⟩ v) :=
  ⟨h.rf.other (a := ⟨q, 0, none⟩) (show w.heap.size ≠ q by omega) _, h.r0.other (a := ⟨q, 0, none⟩) (show w.heap.size + 1 ≠ q by omega) _, h.r1.other (a := ⟨q, 0, none⟩) (show w.heap.size + 1 + 1 ≠ q by omega) _, h.ro.set 0 _, h.ri.other (a := ⟨q, 0, none⟩) (show q + 1 ≠ q by omega) _, h.bel.setCell (p := ⟨q, 0, none⟩) (by show w.heap.size ≤ q; omega) _⟩
theorem Cst.grown {w W W' : World} {q : Nat} {fv ov : Value} {ins : Bool} {row : Option Nat} (h : Cst w q fv ov ins W) (hq : w.heap.size + 3 ≤ q) (hg : W.grownBy W' row) (hr : ∀ k, row = some k → q + 2 ≤ k) : Cst w q fv ov ins W' := by
  have key : ∀ k, k < q + 2 → k < W.heap.size → W'.heap[k]? = W.heap[k]? := fun k hk hl => hg.block k hl (fun e => by have := hr k e.symm; omega)
  have l1 := h.ri.lt
  refine ⟨(key _ (by omega) h.rf.lt).trans h.rf, (key _ (by omega) h.r0.lt).trans h.r0, (key _ (by omega) h.r1.lt).trans h.r1, (key _ (by omega) h.ro.lt).trans h.ro, (key _ (by omega) h.ri.lt).trans h.ri, h.bel.grown hg h.bel.size (fun k e => by have := hr k e; omega)⟩
theorem KeepB.grown {B : Nat} {st : Nat → Prop} {W W' : World} {row : Option Nat} (hg : W.grownBy W' row) (hr : ∀ k, row = some k → B ≤ k) (hB : B ≤ W.heap.size) : KeepB B st W W' :=
  ⟨hg.os, hg.tape, hg.output, hg.size, fun k hk _ => hg.block k (by omega) (fun e => by have := hr k e.symm; omega)⟩
theorem own_cellO {w : World} {B n z g o : Nat} {e : TypeId} {v : Value} {xs : List Value} (h : w.ownsRow B e z v n xs) (hg : g < B) (u : Value) : (w.setCell ⟨g, o, none⟩ u).ownsRow B e z v n xs := by
  obtain ⟨h1, h2⟩ := h
  refine ⟨h1, ?_⟩
  rcases h2 with h2 | ⟨g', c, cur, h3, h4, h5, h6⟩
  · exact .inl h2
  · exact .inr ⟨g', c, cur, h3, h4, (Below.heap_setCell w ⟨g, o, none⟩ u g' (by show g' ≠ g; omega)).trans h5, h6⟩
theorem own_slice {w : World} {B n z : Nat} {e : TypeId} {v : Value} {xs : List Value} (h : w.ownsRow B e z v n xs) : ∃ a c, v = .slice a n c ∧ (∀ k, v.ownBlock = some k → B ≤ k) ∧ (0 < n → ∃ g, B ≤ g ∧ a = some ⟨g, 0, none⟩) := by
  rcases h.2 with ⟨rfl, rfl⟩ | ⟨g, c, cur, rfl, hb, _⟩
  · exact ⟨none, 0, rfl, (fun k e => by cases e), fun h => absurd h (Nat.lt_irrefl 0)⟩
  · exact ⟨some ⟨g, 0, none⟩, c, rfl, (fun k e => by cases e; exact hb), fun _ => ⟨g, hb, rfl⟩⟩
theorem own_keep {W W' : World} {B l n z : Nat} {e : TypeId} {v : Value} {xs : List Value} (h : W.ownsRow B e z v n xs) (hl : l < B) (k : KeepP (fun k => k = l) W W') : W'.ownsRow B e z v n xs := by
  refine h.kept (row := some l) ⟨k.os, k.tape, k.output, k.size, fun i hi hs => k.block i hi (fun e => hs (by rw [show i = l from e]))⟩ ?_
  rcases h.2 with ⟨rfl, _⟩ | ⟨g, cap, cur, rfl, hb, _⟩
  · exact .inl rfl
  · refine .inr fun e => ?_
    simp only [Value.ownBlock, Option.some.injEq] at e
    omega
theorem vr_last (p : List (Nat × Nat)) (x y z : Nat) : (vr (p ++ [(x, y)])).set (p.length * 2 + 1) (.int .u64 (z : Int)) = vr (p ++ [(x, z)]) := by
  induction p with
  | nil => rfl
  | cons r p ih =>
    rw [List.cons_append, vr_cons, List.cons_append, vr_cons, List.length_cons, show (p.length + 1) * 2 + 1 = (p.length * 2 + 1) + 1 + 1 by omega, List.set_cons_succ, List.set_cons_succ, ih]
theorem cells_lit {w : World} {g : Nat} {t : TypeId} {x y : Value} (h : Row w g t #[x, y]) : ∀ j u, ([x, y] : List Value)[j]? = some u → w.cell? ((⟨g, 0, none⟩ : Addr).add j) = some u := by
  intro j u hj
  rw [add_at, Nat.zero_add]
  match j, hj with
  | 0, hj => exact (h.cell 0).trans hj
  | 1, hj => exact (h.cell 1).trans hj
theorem Cst.cellO {w W : World} {q g o : Nat} {fv ov : Value} {ins : Bool} (h : Cst w q fv ov ins W) (hq : w.heap.size + 3 ≤ q) (hg : q + 2 ≤ g) (v : Value) : Cst w q fv ov ins (W.setCell ⟨g, o, none⟩ v) :=
  ⟨h.rf.other (a := ⟨g, o, none⟩) (show w.heap.size ≠ g by omega) _, h.r0.other (a := ⟨g, o, none⟩) (show w.heap.size + 1 ≠ g by omega) _, h.r1.other (a := ⟨g, o, none⟩) (show w.heap.size + 1 + 1 ≠ g by omega) _, h.ro.other (a := ⟨g, o, none⟩) (show q ≠ g by omega) _, h.ri.other (a := ⟨g, o, none⟩) (show q + 1 ≠ g by omega) _, h.bel.setCell (p := ⟨g, o, none⟩) (by show w.heap.size ≤ g; omega) _⟩
/-- One range more. -/
theorem comb_more {w W W' : World} {q N m : Nat} {fv v v' : Value} {ins : Bool} {t : List Nat} (hq : w.heap.size + 3 ≤ q) (hcs : Cst w q fv v ins W) (hvb : ∀ k, v.ownBlock = some k → q + 6 ≤ k) (o : Obj) (hqb : q + 6 ≤ W.heap.size) (hev : t.length % 2 = 0) (hN : N = (Rg.pairsL t).length)
    (hown : W'.ownsRow (q + 6) 25 2 v' (N + 1) (vr (Rg.pairsL t) ++ [.int .u64 (m : Int), .int .u64 0])) (hg : (W.alloc o).grownBy W' v.ownBlock) :
    Cst w q fv v ins W' ∧ KeepB (q + 4 + 2) (fun k => k = q ∨ k = q + 1 ∨ k = w.heap.size + 1 ∨ k = w.heap.size + 1 + 1) W (W'.setCell ⟨q, 0, none⟩ v') ∧ Cst w q fv v' ins (W'.setCell ⟨q, 0, none⟩ v') ∧ (W'.setCell ⟨q, 0, none⟩ v').ownsRow (q + 6) 25 2 v' (Rg.pairsL (t ++ [m])).length (vr (Rg.pairsL (t ++ [m]))) := by
  have h1 : Cst w q fv v ins (W.alloc o) := hcs.below ((Below.refl _ _).alloc (Nat.le_refl _) _)
  have h2 := h1.grown hq hg (fun k e => by have := hvb k e; omega)
  refine ⟨h2, ?_, h2.setOut hq v', ?_⟩
  · have k1 : KeepB (q + 4 + 2) (fun k => k = q ∨ k = q + 1 ∨ k = w.heap.size + 1 ∨ k = w.heap.size + 1 + 1) W (W.alloc o) := KeepB.of_below (((Below.refl _ W).alloc (Nat.le_refl _) o).mono (by omega))
    exact (k1.trans (KeepB.grown hg (fun k e => by have := hvb k e; omega) (by simp; omega))).trans (KeepB.setCell (g := q) (.inl (.inl rfl)) _ 0 _)
  · rw [Rg.pairs_even t m hev, vr_append, List.length_append, List.length_singleton, ← hN]
    exact own_cellO hown (by omega) _
/-- The last range ends. -/
theorem comb_last {w W : World} {q N m g c : Nat} {fv : Value} {ins : Bool} {t : List Nat} (hq : w.heap.size + 3 ≤ q) (hcs : Cst w q fv (.slice (some ⟨g, 0, none⟩) N c) ins W) (hg : q + 6 ≤ g) (hod : t.length % 2 = 1) (hN : N = (Rg.pairsL t).length)
    (hown : W.ownsRow (q + 6) 25 2 (.slice (some ⟨g, 0, none⟩) N c) N (vr (Rg.pairsL t))) :
    (W.cell? ⟨g, (N - 1) * 2 + 1, none⟩ = some (.int .u64 0) ∧ W.frozen? ⟨g, (N - 1) * 2 + 1, none⟩ = false) ∧ KeepB (q + 4 + 2) (fun k => k = q ∨ k = q + 1 ∨ k = w.heap.size + 1 ∨ k = w.heap.size + 1 + 1) W (W.setCell ⟨g, (N - 1) * 2 + 1, none⟩ (.int .u64 ((m - 1 : Nat) : Int))) ∧ Cst w q fv (.slice (some ⟨g, 0, none⟩) N c) ins (W.setCell ⟨g, (N - 1) * 2 + 1, none⟩ (.int .u64 ((m - 1 : Nat) : Int))) ∧ (W.setCell ⟨g, (N - 1) * 2 + 1, none⟩ (.int .u64 ((m - 1 : Nat) : Int))).ownsRow (q + 6) 25 2 (.slice (some ⟨g, 0, none⟩) N c) (Rg.pairsL (t ++ [m])).length (vr (Rg.pairsL (t ++ [m]))) := by
  obtain ⟨p, x, e1, e2⟩ := Rg.pairs_odd t m hod
  have hpl : N = p.length + 1 := by rw [hN, e1, List.length_append, List.length_singleton]
  have hl : (Rg.pairsL t).length = N := hN.symm
  have hr := own_range hown hl (N - 1) (by omega)
  have ht := own_there hown hl (N - 1) (by omega)
  have hgr : gr (Rg.pairsL t) (N - 1) = (x, 0) := by rw [e1, hpl]; simp [gr]
  rw [hgr] at hr
  have h1 := hr 1 (.int .u64 0) rfl
  rw [Nat.zero_add] at h1
  refine ⟨⟨h1, ?_⟩, KeepB.setCell (g := g) (.inr (by omega)) _ _ _, hcs.cellO hq (by omega) _, ?_⟩
  · have := (ht 1 (by decide)).2
    rw [Nat.zero_add] at this
    exact this
  · rw [e2, List.length_append, List.length_singleton, ← hpl, hpl, show p.length + 1 - 1 = p.length by omega, ← vr_last p x 0 (m - 1), ← e1, ← hpl]
    exact own_cellS hown _
/-- Between two rounds. -/
def CombI (rule : Bool → Bool → Bool) (ta tb : List Nat) (w : World) (q : Nat) (fv : Value) (s : Nat × Nat) (W : World) : Prop :=
  ∃ t ov, Rg.St rule ta tb s.1 s.2 t ∧ (Rg.pairsL t).length ≤ 64 ∧ Cst w q fv ov (Rg.oddB t.length) W ∧ W.ownsRow (q + 6) 25 2 ov (Rg.pairsL t).length (vr (Rg.pairsL t))
/-- Where there are too many. -/
def CombS (rule : Bool → Bool → Bool) (ta tb : List Nat) (w : World) (W : World) : Prop :=
  (∃ t, Rg.St rule ta tb ta.length tb.length t ∧ 64 < (Rg.pairsL t).length) ∧ Row W (w.heap.size + 1) 22 #[.slice none 0 0] ∧ Row W (w.heap.size + 1 + 1) 28 #[.int .i64 6] ∧ Below w.heap.size w W
/-- An answer: ranges that are none, or the call's own. -/
structure AnsR (base : Nat) (w : World) (o : RL) : Prop where
  ok : o.Ok w
  own : w.ownsRow base 25 2 (.slice o.a o.len o.cap) o.len (vr o.l)
/-- What a rule's function answers. -/
def Takes (fx : Nat) (rule : Bool → Bool → Bool) : Prop := ∀ (x y : Bool) (w : World), Calls Tryz.prog fx #[.agg #[.bool x, .bool y]] w fun e w' => e = .returned (.bool (rule x y)) ∧ Below w.heap.size w w'

theorem results_comb (tmps : Array Value) (p q : Nat) (aV : Option Addr) (n cV : Nat) (E : Int) (W : World) (h6 : tmps.getD 6 undef = .pointer (some ⟨p, 0, none⟩)) (h7 : tmps.getD 7 undef = .pointer (some ⟨q, 0, none⟩)) (hl : W.cell? ⟨p, 0, none⟩ = some (.slice aV n cV)) (he : W.cell? ⟨q, 0, none⟩ = some (.int .i64 E)) :
    (results Tryz.f23 tmps).run Tryz.prog W = .ok (.tuple #[.slice aV n cV, .int .i64 E]) W := by
  have h6' : tmps[6]?.getD undef = .pointer (some ⟨p, 0, none⟩) := by simpa using h6
  have h7' : tmps[7]?.getD undef = .pointer (some ⟨q, 0, none⟩) := by simpa using h7
  simp [results, Tryz.results23, h6', h7', asAddr, go_sem, hl, he]
theorem comb_stored {w W : World} {v0 v1 : Value} (x y : Value) (h0 : Row W (w.heap.size + 1) 22 #[v0]) (h1 : Row W (w.heap.size + 1 + 1) 28 #[v1]) (hb : Below w.heap.size w W) :
    Row ((W.setCell ⟨w.heap.size + 1, 0, none⟩ x).setCell ⟨w.heap.size + 1 + 1, 0, none⟩ y) (w.heap.size + 1) 22 #[x] ∧ Row ((W.setCell ⟨w.heap.size + 1, 0, none⟩ x).setCell ⟨w.heap.size + 1 + 1, 0, none⟩ y) (w.heap.size + 1 + 1) 28 #[y] ∧ Below w.heap.size w ((W.setCell ⟨w.heap.size + 1, 0, none⟩ x).setCell ⟨w.heap.size + 1 + 1, 0, none⟩ y) :=
  ⟨(h0.set 0 x).other (a := ⟨w.heap.size + 1 + 1, 0, none⟩) (show w.heap.size + 1 ≠ w.heap.size + 1 + 1 by omega) y, (h1.other (a := ⟨w.heap.size + 1, 0, none⟩) (show w.heap.size + 1 + 1 ≠ w.heap.size + 1 by omega) x).set 0 y, (hb.setCell (p := ⟨w.heap.size + 1, 0, none⟩) (by show w.heap.size ≤ w.heap.size + 1; omega) x).setCell (p := ⟨w.heap.size + 1 + 1, 0, none⟩) (by show w.heap.size ≤ w.heap.size + 1 + 1; omega) y⟩
/-- None: the slice that is nil. -/
theorem ans_nil (base : Nat) (w : World) : AnsR base w ⟨none, 0, 0, 0, 0, []⟩ :=
  ⟨⟨rfl, Nat.le_refl _, fun _ => ⟨rfl, rfl⟩, fun h => absurd h (Nat.lt_irrefl 0), fun h => absurd h (Nat.lt_irrefl 0), fun _ h => absurd h (Nat.not_lt_zero _), fun j => by simp [gr]⟩, ⟨rfl, .inl ⟨rfl, rfl⟩⟩⟩

theorem ans_of_own {B n c : Nat} {w : World} {a : Option Addr} {l : List (Nat × Nat)} (h : w.ownsRow B 25 2 (.slice a n c) n (vr l)) (hl : l.length = n) (hs : ∀ j, (gr l j).1 < 18446744073709551616 ∧ (gr l j).2 < 18446744073709551616) : ∃ g, AnsR B w ⟨a, n, c, g, 0, l⟩ := by
  rcases h.2 with ⟨h3, h4⟩ | ⟨g, cap, cur, h3, _⟩
  · injection h3 with e1 e2 e3
    subst e1 e2 e3
    obtain rfl := List.eq_nil_of_length_eq_zero hl
    exact ⟨0, ans_nil B w⟩
  · injection h3 with e1 e2 e3
    subst e1 e3
    exact ⟨g, rl_own h hl hs, h⟩
theorem small_set {l : List (Nat × Nat)} (h : Fr.setL l) : ∀ j, (gr l j).1 < 18446744073709551616 ∧ (gr l j).2 < 18446744073709551616 := fun j => by
  by_cases hj : j < l.length
  · have := set_at l h j hj; omega
  · have : gr l j = (0, 0) := by unfold gr; rw [List.getElem?_eq_none (by omega)]; rfl
    rw [this]; decide
theorem own_put {W : World} {B l n z : Nat} {e : TypeId} {v : Value} {xs : List Value} (h : W.ownsRow B e z v n xs) (hl : l < B) (o : Obj) : (W.putObj l o).ownsRow B e z v n xs :=
  own_keep h hl ⟨rfl, rfl, rfl, by rw [World.putObj_size]; exact Nat.le_refl _, fun k _ hk => World.putObj_heap_other hk⟩
theorem row_put {W : World} {g l : Nat} {t : TypeId} {cs : Array Value} (h : Row W g t cs) (hl : g ≠ l) (o : Obj) : Row (W.putObj l o) g t cs := (World.putObj_heap_other hl).trans h
set_option maxRecDepth 100000 in
set_option maxHeartbeats 2000000 in
theorem comb_no (fx : Nat) (sa sb : RL) (w : World) (oa : sa.Ok w) (ob : sb.Ok w) (hno : ¬ (Rg.setOk sa.l ∧ Rg.setOk sb.l)) :
    Calls Tryz.prog 23 #[.slice sa.a sa.len sa.cap, .slice sb.a sb.len sb.cap, .func (.func fx) #[] #[]] w fun e w' => e = .returned (.tuple #[.slice none 0 0, .int .i64 1]) ∧ Below w.heap.size w w' := by
  have HA := veil oa
  have HB := veil ob
  clear oa ob
  go_enter Tryz.func23, Tryz.ntmps23
  go_wp2_with fail
  have b0 : Below w.heap.size w (((w.alloc (.cells #[.func (.func fx) #[] #[]] 58)).alloc (.cells #[.slice none 0 0] 22)).alloc (.cells #[.int .i64 0] 28)) := (((Below.refl _ w).alloc (Nat.le_refl _) _).alloc (by simp) _).alloc (by simp; omega) _
  have rf : Row (((w.alloc (.cells #[.func (.func fx) #[] #[]] 58)).alloc (.cells #[.slice none 0 0] 22)).alloc (.cells #[.int .i64 0] 28)) w.heap.size 58 #[.func (.func fx) #[] #[]] := ((Row.new _ _ _).alloc _).alloc _
  have r0 : Row (((w.alloc (.cells #[.func (.func fx) #[] #[]] 58)).alloc (.cells #[.slice none 0 0] 22)).alloc (.cells #[.int .i64 0] 28)) (w.heap.size + 1) 22 #[.slice none 0 0] := (Row.new1 _ _ _ _).alloc _
  have r1 : Row (((w.alloc (.cells #[.func (.func fx) #[] #[]] 58)).alloc (.cells #[.slice none 0 0] 22)).alloc (.cells #[.int .i64 0] 28)) (w.heap.size + 1 + 1) 28 #[.int .i64 0] := by
    have := Row.new1 (w.alloc (.cells #[.func (.func fx) #[] #[]] 58)) (.cells #[.slice none 0 0] 22) 28 #[.int .i64 0]
    rw [World.size_alloc] at this
    exact this
  generalize (((w.alloc (.cells #[.func (.func fx) #[] #[]] 58)).alloc (.cells #[.slice none 0 0] 22)).alloc (.cells #[.int .i64 0] 28)) = w0 at *
  refine (rg_check sa w0 (HA.out.below b0)).mono ?_
  rintro e1 w1 ⟨hc1, b1⟩
  have b1' : Below w.heap.size w w1 := b0.trans (b1.mono b0.size)
  have r01 := r0.below b1 r0.lt
  have r11 := r1.below b1 r1.lt
  rcases hc1 with ⟨rfl, hsa⟩ | ⟨rfl, hsa⟩
  · go_wp2_with fail
    refine (rg_check sb w1 (HB.out.below b1')).mono ?_
    rintro e2 w2 ⟨hc2, b2⟩
    have b2' : Below w.heap.size w w2 := b1'.trans (b2.mono b1'.size)
    have r02 := r01.below b2 r01.lt
    have r12 := r11.below b2 r11.lt
    rcases hc2 with ⟨rfl, hsb⟩ | ⟨rfl, hsb⟩
    · exact absurd ⟨hsa, hsb⟩ hno
    · have c0 := r02.cell 0
      have c1 := r12.cell 0
      have f0 := r02.frozen 0
      have f1 := r12.frozen 0
      go_wp2_with fail
      obtain ⟨s0, s1, s2⟩ := comb_stored (.slice none 0 0) (.int .i64 1) r02 r12 b2'
      exact bodyPost_ret (results_comb _ (w.heap.size + 1) (w.heap.size + 1 + 1) _ _ _ _ _ rfl rfl (s0.cell 0) (s1.cell 0)) rfl ⟨rfl, s2⟩
  · have c0 := r01.cell 0
    have c1 := r11.cell 0
    have f0 := r01.frozen 0
    have f1 := r11.frozen 0
    go_wp2_with fail
    obtain ⟨s0, s1, s2⟩ := comb_stored (.slice none 0 0) (.int .i64 1) r01 r11 b1'
    exact bodyPost_ret (results_comb _ (w.heap.size + 1) (w.heap.size + 1 + 1) _ _ _ _ _ rfl rfl (s0.cell 0) (s1.cell 0)) rfl ⟨rfl, s2⟩


set_option maxRecDepth 100000 in
set_option maxHeartbeats 2000000 in
theorem comb_yes (rule : Bool → Bool → Bool) (hr : rule false false = false) (fx : Nat) (hfx : Takes fx rule) (eg : ∀ args w, (callFunc fx args).run Tryz.prog w = .ok (.enter fx args) w) (sa sb : RL) (w : World) (oa : sa.Ok w) (ob : sb.Ok w) (hsa : Rg.setOk sa.l) (hsb : Rg.setOk sb.l) :
    Calls Tryz.prog 23 #[.slice sa.a sa.len sa.cap, .slice sb.a sb.len sb.cap, .func (.func fx) #[] #[]] w fun e w' => ∃ (o : RL) (E : Int), e = .returned (.tuple #[.slice o.a o.len o.cap, .int .i64 E]) ∧ Rg.Comb rule sa.l sb.l o.l E ∧ AnsR w.heap.size w' o ∧ Below w.heap.size w w' := by
  have HA := veil oa
  have HB := veil ob
  have HF := veil hfx
  have HSA := veil hsa
  have HSB := veil hsb
  clear oa ob hfx hsa hsb
  refine (callsIn_wide (n := 5)).1 ?_
  refine callsIn_of_wp_marks Tryz.func23 rfl trivial ?_ rfl
  simp only [Tryz.ntmps23, List.size_toArray, List.length_cons, List.length_nil, Nat.reduceAdd, Nat.reduceSub, Array.replicate_succ, Array.replicate_zero, List.push_toArray, List.append_toArray, List.nil_append, List.cons_append]
  gi_wp2_with fail
  have b0 : Below w.heap.size w (((w.alloc (.cells #[.func (.func fx) #[] #[]] 58)).alloc (.cells #[.slice none 0 0] 22)).alloc (.cells #[.int .i64 0] 28)) := (((Below.refl _ w).alloc (Nat.le_refl _) _).alloc (by simp) _).alloc (by simp; omega) _
  have rf : Row (((w.alloc (.cells #[.func (.func fx) #[] #[]] 58)).alloc (.cells #[.slice none 0 0] 22)).alloc (.cells #[.int .i64 0] 28)) w.heap.size 58 #[.func (.func fx) #[] #[]] := ((Row.new _ _ _).alloc _).alloc _
  have r0 : Row (((w.alloc (.cells #[.func (.func fx) #[] #[]] 58)).alloc (.cells #[.slice none 0 0] 22)).alloc (.cells #[.int .i64 0] 28)) (w.heap.size + 1) 22 #[.slice none 0 0] := (Row.new1 _ _ _ _).alloc _
  have r1 : Row (((w.alloc (.cells #[.func (.func fx) #[] #[]] 58)).alloc (.cells #[.slice none 0 0] 22)).alloc (.cells #[.int .i64 0] 28)) (w.heap.size + 1 + 1) 28 #[.int .i64 0] := by
    have := Row.new1 (w.alloc (.cells #[.func (.func fx) #[] #[]] 58)) (.cells #[.slice none 0 0] 22) 28 #[.int .i64 0]
    rw [World.size_alloc] at this
    exact this
  generalize (((w.alloc (.cells #[.func (.func fx) #[] #[]] 58)).alloc (.cells #[.slice none 0 0] 22)).alloc (.cells #[.int .i64 0] 28)) = w0 at *
  refine ⟨trivial, (callsIn_wide.2 (rg_check sa w0 (HA.out.below b0))).mono ?_⟩
  rintro e1 w1 ⟨hc1, b1⟩
  have b1' : Below w.heap.size w w1 := b0.trans (b1.mono b0.size)
  have rf1 := rf.below b1 rf.lt
  have r01 := r0.below b1 r0.lt
  have r11 := r1.below b1 r1.lt
  obtain rfl : e1 = .returned (.bool true) := by
    rcases hc1 with ⟨h, _⟩ | ⟨_, hn⟩
    · exact h
    · exact absurd HSA.out hn
  clear rf r0 r1 b0 b1
  gi_wp2_with fail
  refine ⟨trivial, (callsIn_wide.2 (rg_check sb w1 (HB.out.below b1'))).mono ?_⟩
  rintro e2 w2 ⟨hc2, b2⟩
  have b2' : Below w.heap.size w w2 := b1'.trans (b2.mono b1'.size)
  have rf2 := rf1.below b2 rf1.lt
  have r02 := r01.below b2 r01.lt
  have r12 := r11.below b2 r11.lt
  obtain rfl : e2 = .returned (.bool true) := by
    rcases hc2 with ⟨h, _⟩ | ⟨_, hn⟩
    · exact h
    · exact absurd HSB.out hn
  clear rf1 r01 r11 b2 b1'
  gi_wp2_with fail
  refine ⟨trivial, (turns_in _ sa sb _).mono ?_⟩
  rintro e3 w3 ⟨rfl, rfl⟩
  gi_wp2_with fail
  have l12 := r12.lt
  have C3 : Cst w w2.heap.size (.func (.func fx) #[] #[]) (.slice none 0 0) false ((((w2.alloc (.cells #[.slice none 0 0] 22)).alloc (.cells #[.bool false] 4)).alloc (.cells #[.slice sa.a sa.len sa.cap] 22)).alloc (.cells #[.slice sb.a sb.len sb.cap] 22)) := by
    refine ⟨(((rf2.alloc _).alloc _).alloc _).alloc _, (((r02.alloc _).alloc _).alloc _).alloc _, (((r12.alloc _).alloc _).alloc _).alloc _, (((Row.new _ _ _).alloc _).alloc _).alloc _, ((Row.new1 _ _ _ _).alloc _).alloc _, (((b2'.alloc b2'.size _).alloc ?_ _).alloc ?_ _).alloc ?_ _⟩
    · have := b2'.size; simp; omega
    · have := b2'.size; simp; omega
    · have := b2'.size; simp; omega
  have ra : Row ((((w2.alloc (.cells #[.slice none 0 0] 22)).alloc (.cells #[.bool false] 4)).alloc (.cells #[.slice sa.a sa.len sa.cap] 22)).alloc (.cells #[.slice sb.a sb.len sb.cap] 22)) (w2.heap.size + 1 + 1) 22 #[.slice sa.a sa.len sa.cap] := by
    have := (Row.new1 (w2.alloc (.cells #[.slice none 0 0] 22)) (.cells #[.bool false] 4) 22 #[.slice sa.a sa.len sa.cap]).alloc (.cells #[.slice sb.a sb.len sb.cap] 22)
    rw [World.size_alloc] at this
    exact this
  have rb : Row ((((w2.alloc (.cells #[.slice none 0 0] 22)).alloc (.cells #[.bool false] 4)).alloc (.cells #[.slice sa.a sa.len sa.cap] 22)).alloc (.cells #[.slice sb.a sb.len sb.cap] 22)) (w2.heap.size + 1 + 1 + 1) 22 #[.slice sb.a sb.len sb.cap] := by
    have := Row.new1 ((w2.alloc (.cells #[.slice none 0 0] 22)).alloc (.cells #[.bool false] 4)) (.cells #[.slice sa.a sa.len sa.cap] 22) 22 #[.slice sb.a sb.len sb.cap]
    rw [World.size_alloc, World.size_alloc] at this
    exact this
  have hsz : ((((w2.alloc (.cells #[.slice none 0 0] 22)).alloc (.cells #[.bool false] 4)).alloc (.cells #[.slice sa.a sa.len sa.cap] 22)).alloc (.cells #[.slice sb.a sb.len sb.cap] 22)).heap.size = w2.heap.size + 4 := by simp
  generalize ((((w2.alloc (.cells #[.slice none 0 0] 22)).alloc (.cells #[.bool false] 4)).alloc (.cells #[.slice sa.a sa.len sa.cap] 22)).alloc (.cells #[.slice sb.a sb.len sb.cap] 22)) = V3 at *
  have hqw : w.heap.size + 3 ≤ w2.heap.size := by omega
  generalize w2.heap.size = q at *
  have HC := veil C3
  have oa3 := HA.out.below C3.bel
  have ob3 := HB.out.below C3.bel
  have hga := HA.out.lt
  have hgb := HB.out.lt
  clear rf2 r02 r12 b2' l12 C3 hc1 hc2
  refine rangeFunc_stops (F := Fence.wide) (n := 5) rfl (by decide) (gf := 94) (lb := #[.pointer (some ⟨q + 1 + 1, 0, none⟩), .pointer (some ⟨q + 1 + 1 + 1, 0, none⟩)]) rfl trivial (enters_of Tryz.func94 (by kernel_rfl) rfl) (encs := encT) (fun _ => rfl)
    (fun k => k = q ∨ k = q + 1 ∨ k = w.heap.size + 1 ∨ k = w.heap.size + 1 + 1) (fun k hk => by rcases hk with rfl | rfl | rfl | rfl <;> omega)
    (turns_tells (5 - 1) (by decide) (q + 1 + 1) (q + 1 + 1 + 1) _ sa sb V3 HSA.out HSB.out oa3 ob3 ra rb (by omega) (by omega) (fun h => by have := hga h; omega) (fun h => by have := hgb h; omega))
    (CombI rule (Rg.turnsOf sa.l) (Rg.turnsOf sb.l) w q (.func (.func fx) #[] #[])) (CombS rule (Rg.turnsOf sa.l) (Rg.turnsOf sb.l) w) ?hI ?hIs ?h0
    (fun x b => { tmps := #[.slice sa.a sa.len sa.cap, .slice sb.a sb.len sb.cap, .func (.func fx) #[] #[], undef, undef, .pointer (some ⟨w.heap.size, 0, none⟩), .pointer (some ⟨w.heap.size + 1, 0, none⟩), .pointer (some ⟨w.heap.size + 1 + 1, 0, none⟩), .pointer (some ⟨q, 0, none⟩), .pointer (some ⟨q + 1, 0, none⟩), .int .u64 (x.1 : Int), .pointer (some ⟨b, 0, none⟩), undef, .slice sa.a sa.len sa.cap, .bool true, .bool false, .bool false, .slice sb.a sb.len sb.cap, .bool true, .bool false, .bool false, .slice sa.a sa.len sa.cap, .slice sb.a sb.len sb.cap, .func (.func 94) #[] #[.pointer (some ⟨q + 1 + 1, 0, none⟩), .pointer (some ⟨q + 1 + 1 + 1, 0, none⟩)], .int .u64 (x.1 : Int), .agg #[.bool x.2.1, .bool x.2.2], undef, undef, undef, undef, undef, undef, undef, undef, undef, undef, undef, undef, undef, undef, undef, undef, undef, undef, undef, undef, undef, undef, undef, undef, undef, undef, undef, undef, undef, undef, undef, undef, undef, undef, undef, undef, undef, undef, undef, undef, undef], defers := [] }) (fun x b W => Row W b 57 #[.bool x.2.1, .bool x.2.2]) (fun x b W W' h e => e.trans h) ?assign ?body ?done ?stop
  case hI =>
    rintro s A B ⟨t, ov, h1, h2, h3, h4⟩ k
    exact ⟨t, ov, h1, h2, h3.keep hqw (by omega) k, own_keep h4 (by omega) k⟩
  case hIs =>
    rintro A B ⟨h1, h2, h3, h4⟩ k
    exact ⟨h1, k.rowP h2 (by omega), k.rowP h3 (by omega), h4.trans (k.below (B := w.heap.size) (fun k e => by omega) h4.size)⟩
  case h0 => exact ⟨[], .slice none 0 0, Rg.st_begin rule hr _ _, by decide, HC.out, ⟨rfl, .inl ⟨rfl, rfl⟩⟩⟩
  case assign =>
    intro l x W K hK
    unfold encT
    gi_wp2_with fail
    exact hK _ ((Below.refl _ W).alloc (Nat.le_refl _) _) (by simp) (Row.new _ _ _)
  case body =>
    rintro l s x s' b W ⟨_, _, hx1, hx2, rfl, hx3⟩ ⟨t, ov, hst, hlen, hcs, hown⟩ hrx hb1 hb2
    obtain ⟨m, pr⟩ := x
    simp only at hx1 hx2 hx3
    obtain ⟨p, r⟩ := pr
    have HP : Hid (p = Rg.oddB (Rg.go (Rg.turnsOf sa.l) s.1 m) ∧ r = Rg.oddB (Rg.go (Rg.turnsOf sb.l) s.2 m)) := ⟨(Prod.mk.inj hx3).1, (Prod.mk.inj hx3).2⟩
    have HSTEP := veil (Rg.st_step (Rg.turns_up _ HSA.out.2) (Rg.turns_up _ HSB.out.2) (Rg.turns_bound _ HSA.out.2) (Rg.turns_bound _ HSB.out.2) hst hx1 hx2)
    have hmb : m ≤ 4611686018427387904 := by
      have h1 : m = Rg.nxt (Rg.turnsOf sa.l) s.1 ∨ m = Rg.nxt (Rg.turnsOf sb.l) s.2 := by omega
      rcases h1 with h1 | h1
      · obtain ⟨h2, h3⟩ := Rg.nxt_lt (Rg.turns_bound _ HSA.out.2) (show Rg.nxt (Rg.turnsOf sa.l) s.1 ≠ _ by omega)
        have := Rg.turns_bound _ HSA.out.2 _ (List.getElem_mem h2)
        omega
      · obtain ⟨h2, h3⟩ := Rg.nxt_lt (Rg.turns_bound _ HSB.out.2) (show Rg.nxt (Rg.turnsOf sb.l) s.2 ≠ _ by omega)
        have := Rg.turns_bound _ HSB.out.2 _ (List.getElem_mem h2)
        omega
    have HST := veil hst
    obtain ⟨va, vc, hov, hvb, hvg⟩ := own_slice hown
    subst hov
    have HOWN := veil hown
    have HLEN := veil hlen
    have HCS := veil hcs
    have HVB := veil hvb
    have cF := hcs.rf.cell 0
    have cI := hcs.ri.cell 0
    have cH0 := hrx.cell 0
    have cH1 := hrx.cell 1
    have hqb : q + 6 ≤ W.heap.size := by omega
    clear hx1 hx2 hx3 hst hown hlen hcs hvb ra rb HC oa3 ob3 hga hgb
    obtain ⟨N, hN⟩ : ∃ N, N = (Rg.pairsL t).length := ⟨_, rfl⟩
    have HN := veil hN
    rw [← hN] at hvg
    rw [← hN] at HCS HOWN HVB
    have hN64 : N ≤ 64 := by rw [hN]; exact HLEN.out
    clear hN
    gi_wp2_with fail
    refine ⟨trivial, (CallsIn.inRound l (callsIn_wide.2 (HF.out p r W))).mono ?_⟩
    rintro e1 W1 ⟨rfl, hW1⟩
    have hcs1 := HCS.out.below hW1
    have own1 := own_below2 HOWN.out hW1
    have cI1 := hcs1.ri.cell 0
    have fI1 := hcs1.ri.frozen 0
    have cF1 := hcs1.rf.cell 0
    have kb1 : KeepB (q + 4 + 2) (fun k => k = q ∨ k = q + 1 ∨ k = w.heap.size + 1 ∨ k = w.heap.size + 1 + 1) W W1 := KeepB.of_below (hW1.mono (by omega))
    have hs1 := hW1.size
    have hcs2 := hcs1.setIns hqw (rule p r)
    have own2 := own_cellO (o := 0) own1 (show q + 1 < q + 6 by omega) (.bool (rule p r))
    have kb2 := kb1.trans (KeepB.setCell (B := q + 4 + 2) (g := q + 1) (.inl (.inr (.inl rfl))) W1 0 (.bool (rule p r)))
    have sz2 : (W1.setCell ⟨q + 1, 0, none⟩ (.bool (rule p r))).heap.size = W1.heap.size := by simp [World.setCell]
    have HCS2 := veil hcs2
    have HOWN2 := veil own2
    have HKB2 := veil kb2
    have cO2 := hcs2.ro.cell 0
    have cI2 := hcs2.ri.cell 0
    have fO2 := hcs2.ro.frozen 0
    have c02 := hcs2.r0.cell 0
    have f02 := hcs2.r0.frozen 0
    have c12 := hcs2.r1.cell 0
    have f12 := hcs2.r1.frozen 0
    have HNOW := veil (show rule p r = rule (Rg.oddB (Rg.go (Rg.turnsOf sa.l) s.1 m)) (Rg.oddB (Rg.go (Rg.turnsOf sb.l) s.2 m)) by rw [HP.out.1, HP.out.2])
    clear hcs1 own1 cF1 kb1 hcs2 own2 kb2 cF cI cH0 cH1 hrx hW1 HP
    have HEQ := veil (show rule p r = Rg.oddB t.length → Rg.St rule (Rg.turnsOf sa.l) (Rg.turnsOf sb.l) (Rg.go (Rg.turnsOf sa.l) s.1 m) (Rg.go (Rg.turnsOf sb.l) s.2 m) t from fun h => by
      have := HSTEP.out
      rw [Rg.goT, ← HNOW.out, if_pos h] at this
      exact this)
    have HAP := veil (show rule p r ≠ Rg.oddB t.length → Rg.St rule (Rg.turnsOf sa.l) (Rg.turnsOf sb.l) (Rg.go (Rg.turnsOf sa.l) s.1 m) (Rg.go (Rg.turnsOf sb.l) s.2 m) (t ++ [m]) from fun h => by
      have := HSTEP.out
      rw [Rg.goT, ← HNOW.out, if_neg h] at this
      exact this)
    cases hnow : rule p r <;> cases hbef : Rg.oddB t.length
    case false.false =>
      rw [hnow] at HCS2 HOWN2 HKB2 cO2 cI2 fO2 c02 f02 c12 f12 HEQ HAP sz2
      rw [hbef] at cI1 HEQ HAP
      have HS := veil (HEQ.out rfl)
      clear HEQ HAP hnow HNOW HSTEP
      gi_wp2_with fail
      exact ⟨HKB2.out, t, _, HS.out, HLEN.out, by rw [hbef]; exact HCS2.out, by rw [← HN.out]; exact HOWN2.out⟩
    case true.true =>
      rw [hnow] at HCS2 HOWN2 HKB2 cO2 cI2 fO2 c02 f02 c12 f12 HEQ HAP sz2
      rw [hbef] at cI1 HEQ HAP
      have HS := veil (HEQ.out rfl)
      clear HEQ HAP hnow HNOW HSTEP
      gi_wp2_with fail
      exact ⟨HKB2.out, t, _, HS.out, HLEN.out, by rw [hbef]; exact HCS2.out, by rw [← HN.out]; exact HOWN2.out⟩
    case true.false =>
      rw [hnow] at HCS2 HOWN2 HKB2 cO2 cI2 fO2 c02 f02 c12 f12 HEQ HAP sz2
      rw [hbef] at cI1 HEQ HAP
      have HS := veil (HAP.out (by decide))
      have hev : t.length % 2 = 0 := by have := of_decide_eq_false hbef; omega
      clear HEQ HAP hnow HNOW HSTEP
      by_cases h64 : N = 64
      · have f64 : ((N : Int) == 64) = true := by rw [h64]; rfl
        have HST2 := veil (show ∃ t', Rg.St rule (Rg.turnsOf sa.l) (Rg.turnsOf sb.l) (Rg.turnsOf sa.l).length (Rg.turnsOf sb.l).length t' ∧ 64 < (Rg.pairsL t').length by
          obtain ⟨t', hp, hs⟩ := Rg.st_finish (Rg.turns_up _ HSA.out.2) (Rg.turns_up _ HSB.out.2) (Rg.turns_bound _ HSA.out.2) (Rg.turns_bound _ HSB.out.2) _ _ _ _ rfl HS.out
          refine ⟨t', hs, ?_⟩
          have h1 := hp.length_le
          have h2 := HN.out
          rw [Rg.pairs_length] at h2
          rw [List.length_append, List.length_singleton] at h1
          rw [Rg.pairs_length]
          omega)
        clear hev h64
        gi_wp2_with fail
        obtain ⟨s0, s1, s2⟩ := comb_stored (.slice none 0 0) (.int .i64 6) HCS2.out.r0 HCS2.out.r1 HCS2.out.bel
        exact ⟨(HKB2.out.trans (KeepB.setCell (g := w.heap.size + 1) (.inl (.inr (.inr (.inl rfl)))) _ 0 _)).trans (KeepB.setCell (g := w.heap.size + 1 + 1) (.inl (.inr (.inr (.inr rfl)))) _ 0 _), HST2.out, s0, s1, s2⟩
      · have f64 : ((N : Int) == 64) = false := by simp; omega
        obtain ⟨i0, hi, hz0, hz1, hz2⟩ := range_info
        have hmL : N + 1 ≤ maxLen := by unfold maxLen; omega
        have hmB : (N + 1) * 16 ≤ 140737488355328 := by omega
        have HEV := veil hev
        have HMORE := veil (fun (o : Obj) (W' : World) (v' : Value) => comb_more (W' := W') (m := m) (v' := v') hqw HCS2.out HVB.out o (by rw [sz2]; omega) hev HN.out)
        have hb6 : ∀ o, q + 6 ≤ ((W1.setCell ⟨q + 1, 0, none⟩ (.bool true)).alloc o).heap.size := fun o => by rw [World.size_alloc, sz2]; omega
        have HB6 := veil hb6
        have HLIT := veil (show ∀ j u, ([.int .u64 (m : Int), .int .u64 0] : List Value)[j]? = some u → ((W1.setCell ⟨q + 1, 0, none⟩ (.bool true)).alloc (.cells #[.int .u64 (m : Int), .int .u64 0] 25)).cell? ((⟨W1.heap.size, 0, none⟩ : Addr).add j) = some u by
          rw [← sz2]
          exact cells_lit (Row.new _ _ _))
        have HONE := veil (show ∀ u ∈ ([.int .u64 (m : Int), .int .u64 0] : List Value), u.oneCell' = true by simp [Value.oneCell'])
        clear hev hb6
        gi_wp2_with (with_reducible (show wpListIn _ _ _ _ _ (⟨_, Op.call { callee := .builtin .append, args := _, argTypes := _ }, _, _, _, _⟩ :: _) _ _)
                     refine wpListIn_append_own _ rfl _ _ 22 rfl (q + 6) 25 i0 (.agg (rC2 (0, 0))) 2 16 Tryz.underlying22 hi hz0 hz1 hz2 rfl (by decide) (.slice va N vc) _ _ rfl (HOWN2.out.alloc _) ⟨W1.heap.size, 0, none⟩ 1 1 [.int .u64 (m : Int), .int .u64 0] rfl rfl HLIT.out HONE.out hmL hmB (HB6.out _) ?_
                     intro v4 W4 hown4 hgrow4 _
                     obtain ⟨a4, cap4, rfl, _⟩ := own_slice hown4
                     obtain ⟨k1, k2, k3, k4⟩ := HMORE.out _ _ _ hown4 hgrow4
                     have K2 := veil k2
                     have K3 := veil k3
                     have K4 := veil k4
                     have c4 := k1.ro.cell 0
                     have f4 := k1.ro.frozen 0
                     clear k1 k2 k3 k4 hgrow4 hown4)
        exact ⟨HKB2.out.trans K2.out, t ++ [m], _, HS.out, by rw [Rg.pairs_even t m HEV.out, List.length_append, List.length_singleton, ← HN.out]; omega, by rw [List.length_append, List.length_singleton, Rg.oddB_succ, hbef]; exact K3.out, K4.out⟩
    case false.true =>
      rw [hnow] at HCS2 HOWN2 HKB2 cO2 cI2 fO2 c02 f02 c12 f12 HEQ HAP sz2
      rw [hbef] at cI1 HEQ HAP
      have HS := veil (HAP.out (by decide))
      have hod : t.length % 2 = 1 := of_decide_eq_true hbef
      have hN0 : 0 < N := by rw [HN.out, Rg.pairs_length]; omega
      obtain ⟨g, hg6, hva⟩ := hvg hN0
      subst hva
      obtain ⟨⟨cL, fL⟩, k2, k3, k4⟩ := comb_last (m := m) hqw HCS2.out hg6 hod HN.out HOWN2.out
      have K2 := veil k2
      have K3 := veil k3
      have K4 := veil k4
      have HM1 := veil (show 1 ≤ m by
        have h1 := HS.out.up
        have h2 := (List.pairwise_append.1 h1).2.2
        cases t with
        | nil => simp at hod
        | cons z t => have := h2 z (List.mem_cons_self ..) m (List.mem_singleton.2 rfl); omega)
      have hw1 : IntKind.u64.wrap ((m : Int) - 1) = ((m - 1 : Nat) : Int) := by have := HM1.out; rw [IntKind.wrap_u64]; omega
      have hn1 : (N : Int) - 1 = ((N - 1 : Nat) : Int) := by omega
      have hn2 : N - 1 < N := by omega
      have hn3 : IntKind.i64.wrap ((N - 1 : Nat) : Int) = ((N - 1 : Nat) : Int) := by rw [IntKind.wrap_i64]; omega
      have HOD := veil hod
      clear HEQ HAP hnow HNOW HSTEP k2 k3 k4 hod hvg
      gi_wp2_with fail
      exact ⟨HKB2.out.trans K2.out, t ++ [m], _, HS.out, by rw [Rg.pairs_length, List.length_append, List.length_singleton]; have := HN.out; rw [Rg.pairs_length] at this; have := HOD.out; omega, by rw [List.length_append, List.length_singleton, Rg.oddB_succ, hbef]; exact K3.out, K4.out⟩
  case done =>
    rintro D s W hD rfl ⟨t, ov, hst, hlen, hcs, hown⟩ hK
    obtain ⟨va, vc, hov, hvb, hvg⟩ := own_slice hown
    subst hov
    have cO := hcs.ro.cell 0
    have c0 := hcs.r0.cell 0
    have f0 := hcs.r0.frozen 0
    have c1 := hcs.r1.cell 0
    have f1 := hcs.r1.frozen 0
    have HST := veil hst
    have HLEN := veil hlen
    have HCS := veil hcs
    have HOWN := veil hown
    have HVG := veil hvg
    have HD := veil hD
    have HK := veil hK
    clear hst hlen hcs hown hvb hvg hK hD
    gi_wp2_with fail
    obtain ⟨s0, s1, s2⟩ := comb_stored (.slice va (Rg.pairsL t).length vc) (.int .i64 0) HCS.out.r0 HCS.out.r1 HCS.out.bel
    have hDq : D = q + 4 := by have := HD.out; omega
    have hK5 : (((W.setCell ⟨w.heap.size + 1, 0, none⟩ (.slice va (Rg.pairsL t).length vc)).setCell ⟨w.heap.size + 1 + 1, 0, none⟩ (.int .i64 0))).heap[D]? = some (.deferred (some [])) :=
      (Below.heap_setCell _ _ _ _ (by show D ≠ w.heap.size + 1 + 1; omega)).trans ((Below.heap_setCell _ _ _ _ (by show D ≠ w.heap.size + 1; omega)).trans HK.out)
    refine ⟨by simp, .inl ⟨_, _, rfl, run_takeDeferred hK5, ?_⟩⟩
    obtain ⟨e1, e2, e3⟩ := Rg.st_end hr HSA.out.2 HSB.out.2 HST.out
    have own5 := own_put (own_cellO (own_cellO HOWN.out (show w.heap.size + 1 < q + 6 by omega) (.slice va (Rg.pairsL t).length vc) (o := 0)) (show w.heap.size + 1 + 1 < q + 6 by omega) (.int .i64 0) (o := 0)) (show D < q + 6 by omega) (.deferred none)
    obtain ⟨g, hans⟩ := ans_of_own (own_low2 own5 (show w.heap.size ≤ q + 6 by omega)) rfl (small_set e1)
    exact ⟨_, results_comb _ (w.heap.size + 1) (w.heap.size + 1 + 1) va (Rg.pairsL t).length vc 0 _ rfl rfl ((row_put s0 (by omega) _).cell 0) ((row_put s1 (by omega) _).cell 0), _, 0, rfl, .inr ⟨⟨HSA.out, HSB.out⟩, _, e1, e3, .inl ⟨HLEN.out, rfl, rfl⟩⟩, hans, s2.trans (below_putObj _ (by omega) (by have := s2.size; omega))⟩
  case stop =>
    rintro D W hD ⟨⟨t, hst, h64⟩, h0, h1, hb⟩ hK
    refine ⟨by simp, .inl ⟨_, _, rfl, run_takeDeferred hK, ?_⟩⟩
    obtain ⟨e1, e2, e3⟩ := Rg.st_end hr HSA.out.2 HSB.out.2 hst
    exact ⟨_, results_comb _ (w.heap.size + 1) (w.heap.size + 1 + 1) none 0 0 6 _ rfl rfl ((row_put h0 (by omega) _).cell 0) ((row_put h1 (by omega) _).cell 0), _, 6, rfl, .inr ⟨⟨HSA.out, HSB.out⟩, _, e1, e3, .inr ⟨h64, rfl, rfl⟩⟩, ans_nil _ _, hb.trans (below_putObj _ (by omega) hb.size)⟩

theorem comb_any (rule : Bool → Bool → Bool) (hr : rule false false = false) (fx : Nat) (hfx : Takes fx rule) (eg : ∀ args w, (callFunc fx args).run Tryz.prog w = .ok (.enter fx args) w) (sa sb : RL) (w : World) (oa : sa.Ok w) (ob : sb.Ok w) :
    Calls Tryz.prog 23 #[.slice sa.a sa.len sa.cap, .slice sb.a sb.len sb.cap, .func (.func fx) #[] #[]] w fun e w' => ∃ (o : RL) (E : Int), e = .returned (.tuple #[.slice o.a o.len o.cap, .int .i64 E]) ∧ Rg.Comb rule sa.l sb.l o.l E ∧ AnsR w.heap.size w' o ∧ Below w.heap.size w w' := by
  by_cases h : Rg.setOk sa.l ∧ Rg.setOk sb.l
  · exact comb_yes rule hr fx hfx eg sa sb w oa ob h.1 h.2
  · refine (comb_no fx sa sb w oa ob h).mono ?_
    rintro e w' ⟨rfl, hb⟩
    exact ⟨⟨none, 0, 0, 0, 0, []⟩, 1, rfl, .inl ⟨h, rfl, rfl⟩, ans_nil _ _, hb⟩
end Go.Proofs.YtalhfciiflcfbaaGreatDoor
