/-
  What the document's both answers.
-/
import Derived.Test.YtalhfciiflcfbaaGreatDoorRgRefD
namespace Go.Proofs.YtalhfciiflcfbaaGreatDoor
open Go Go.RowKit Go.Shelf

def dep12 : Nat → List Nat
  | 3 => [1, 2]
  | 4 => [3]
  | 7 => [6]
  | 8 => [5, 7]
  | 9 => [8]
  | 10 => [9]
  | 11 => [4, 10]
  | 12 => [11]
  | 13 => [0, 12]
  | 14 => [13]
  | _ => []
def dcl12 : Nat → List Nat
  | 13 => [0, 12]
  | 14 => [13, 0]
  | _ => []
def val12 (oa : Option Addr) (oc : Nat) (o : List (Nat × Nat)) (tg tc : Nat) (t : List Nat) (i : Nat) : Nat → Value
  | 0 => .slice oa o.length oc
  | 1 => .slice (some ⟨tg, 0, none⟩) t.length tc
  | 2 => .int .i64 (i : Int)
  | 3 => .pointer (some ⟨tg, 0 + i * 1, none⟩)
  | 4 => .int .u64 (Rg.gt t i : Int)
  | 5 => .slice (some ⟨tg, 0, none⟩) t.length tc
  | 6 => .int .i64 (i : Int)
  | 7 => .int .i64 ((i + 1 : Nat) : Int)
  | 8 => .pointer (some ⟨tg, 0 + (i + 1) * 1, none⟩)
  | 9 => .int .u64 (Rg.gt t (i + 1) : Int)
  | 10 => .int .u64 ((Rg.gt t (i + 1) - 1 : Nat) : Int)
  | 11 => .agg #[.int .u64 (Rg.gt t i : Int), .int .u64 ((Rg.gt t (i + 1) - 1 : Nat) : Int)]
  | _ => undef
/-- Two rows of the call's own, of numbers and of ranges, are two. -/
theorem own_ne {W : World} {B B' z z' n n' : Nat} {e e' : TypeId} {v u : Value} {xs ys : List Value} (he : e ≠ e') (h : W.ownsRow B e z v n xs) (h' : W.ownsRow B' e' z' u n' ys) : u.ownBlock = none ∨ u.ownBlock ≠ v.ownBlock := by
  rcases h'.2 with ⟨rfl, _⟩ | ⟨g', c', cur', rfl, _, hg', _⟩
  · exact .inl rfl
  · refine .inr fun eq => ?_
    rcases h.2 with ⟨rfl, _⟩ | ⟨g, c, cur, rfl, _, hg, _⟩
    · cases eq
    · simp only [Value.ownBlock, Option.some.injEq] at eq
      rw [eq, hg] at hg'
      injection hg' with h1
      injection h1 with _ h2
      exact he h2
/-- What stands in memory while the borders are gone through. -/
structure Bst (w : World) (tg tc : Nat) (t : List Nat) (ov : Value) (o : List (Nat × Nat)) (W : World) : Prop where
  at_ : W.ownsRow w.heap.size 23 1 (.slice (some ⟨tg, 0, none⟩) t.length tc) t.length (vn t)
  out : W.ownsRow w.heap.size 25 2 ov o.length (vr o)
  bel : Below w.heap.size w W
theorem Bst.below {w W W' : World} {tg tc : Nat} {t : List Nat} {ov : Value} {o : List (Nat × Nat)} (h : Bst w tg tc t ov o W) (hb : Below W.heap.size W W') : Bst w tg tc t ov o W' := ⟨own_below2 h.at_ hb, own_below2 h.out hb, h.bel.trans (hb.mono h.bel.size)⟩
theorem Bst.cell {w W : World} {tg tc : Nat} {t : List Nat} {ov : Value} {o : List (Nat × Nat)} (h : Bst w tg tc t ov o W) {j : Nat} (hj : j < t.length) : W.cell? ⟨tg, j, none⟩ = some (.int .u64 (Rg.gt t j : Int)) := by
  have := h.at_.cells (g := tg) rfl j _ (vn_at hj)
  rw [add_at, Nat.zero_add] at this
  exact this
theorem Bst.lt {w W : World} {tg tc : Nat} {t : List Nat} {ov : Value} {o : List (Nat × Nat)} (h : Bst w tg tc t ov o W) : tg < W.heap.size := (h.at_.lt tg rfl).2
theorem bst_append {w W : World} {tg tc : Nat} {t : List Nat} {ov : Value} {o : List (Nat × Nat)} {x y gN : Nat} (h : Bst w tg tc t ov o W) (hl : o.length ≤ 1000) (hlit : ∀ j u, (vr [(x, y)])[j]? = some u → W.cell? ((⟨gN, 0, none⟩ : Addr).add j) = some u) (ty : TypeId) :
    ∃ v' W', (Builtin.append_ #[22, 22] ty #[ov, .slice (some ⟨gN, 0, none⟩) 1 1]).run Tryz.prog W = .ok v' W' ∧ Bst w tg tc t v' (o ++ [(x, y)]) W' := by
  obtain ⟨i0, hi, hz0, hz1, hz2⟩ := range_info
  obtain ⟨v', W', hr, h1, h2, _⟩ := run_append_own (P := Tryz.prog) W w.heap.size 22 ty 25 i0 (.agg (rC2 (0, 0))) 2 16 Tryz.underlying22 hi hz0 hz1 hz2 rfl (by decide) ov o.length (vr o) h.out ⟨gN, 0, none⟩ 1 1 (vr [(x, y)]) rfl hlit (vr_one _) (by unfold maxLen; omega) (by omega) h.bel.size
  obtain ⟨_, _, _, hvb, _⟩ := own_slice h.out
  refine ⟨v', W', hr, h.at_.kept h2 (own_ne (by decide) h.out h.at_), ?_, h.bel.grown h2 h.bel.size (fun k e => hvb k e)⟩
  rw [vr_append, List.length_append, List.length_singleton]
  exact h1
theorem bst_last {w W : World} {tg tc og oc : Nat} {t : List Nat} {p : List (Nat × Nat)} {x y : Nat} (z : Nat) (h : Bst w tg tc t (.slice (some ⟨og, 0, none⟩) (p ++ [(x, y)]).length oc) (p ++ [(x, y)]) W) :
    (W.cell? ⟨og, p.length * 2 + 1, none⟩ = some (.int .u64 (y : Int)) ∧ W.frozen? ⟨og, p.length * 2 + 1, none⟩ = false) ∧ Bst w tg tc t (.slice (some ⟨og, 0, none⟩) (p ++ [(x, z)]).length oc) (p ++ [(x, z)]) (W.setCell ⟨og, p.length * 2 + 1, none⟩ (.int .u64 (z : Int))) := by
  have hl : (p ++ [(x, y)]).length = p.length + 1 := by rw [List.length_append, List.length_singleton]
  have hl2 : (p ++ [(x, z)]).length = p.length + 1 := by rw [List.length_append, List.length_singleton]
  have hr := own_range h.out rfl p.length (by omega)
  have ht := own_there h.out rfl p.length (by omega)
  have hgr : gr (p ++ [(x, y)]) p.length = (x, y) := by simp [gr]
  rw [hgr] at hr
  have h1 := hr 1 (.int .u64 (y : Int)) rfl
  rw [Nat.zero_add] at h1
  have h2 := (ht 1 (by decide)).2
  rw [Nat.zero_add] at h2
  have hog := (h.out.lt og rfl).1
  refine ⟨⟨h1, h2⟩, ?_, ?_, h.bel.setCell (p := ⟨og, p.length * 2 + 1, none⟩) hog _⟩
  · have hne : og ≠ tg := fun e => by
      rcases own_ne (by decide) h.out h.at_ with h3 | h3
      · cases h3
      · exact h3 (by simp only [Value.ownBlock, Option.some.injEq]; exact e.symm)
    obtain ⟨q1, q2⟩ := h.at_
    refine ⟨q1, ?_⟩
    rcases q2 with ⟨h3, _⟩ | ⟨g', c', cur, h3, h4, h5, h6⟩
    · cases h3
    · injection h3 with e1 e2 e3
      injection e1 with e1
      injection e1 with e1
      subst e1 e3
      exact .inr ⟨tg, tc, cur, rfl, h4, (Below.heap_setCell W _ _ tg (Ne.symm hne)).trans h5, h6⟩
  · have := own_cellS h.out (k := p.length * 2 + 1) (.int .u64 (z : Int))
    rw [vr_last p x y z, hl] at this
    rw [hl2]
    exact this
/-- What the spine of a step brings about. -/
def spR (w : World) (tg tc : Nat) (t : List Nat) (ov : Value) (o : List (Nat × Nat)) (x y : Nat) : Nat → World → Value → Prop
  | 0, W, _ => Bst w tg tc t ov o W
  | 1, W, u => Bst w tg tc t ov o W ∧ ∃ gN, u = .slice (some ⟨gN, 0, none⟩) 1 1 ∧ ∀ j v, (vr [(x, y)])[j]? = some v → W.cell? ((⟨gN, 0, none⟩ : Addr).add j) = some v
  | _, W, u => Bst w tg tc t u (o ++ [(x, y)]) W
theorem spR_at {w W : World} {tg tc m : Nat} {t : List Nat} {ov u : Value} {o : List (Nat × Nat)} {x y : Nat} (h : spR w tg tc t ov o x y m W u) {j : Nat} (hj : j < t.length) : W.cell? ⟨tg, j, none⟩ = some (.int .u64 (Rg.gt t j : Int)) := by
  match m, h with
  | 0, h => exact Bst.cell h hj
  | 1, h => exact Bst.cell h.1 hj
  | _ + 2, h => exact Bst.cell h hj

section
variable {F : Fence} {n : Nat} {ops : Array Oper} {rest : List Oper} {o : Oper} {a : Act} {w : World} {Q : Exit → Act → World → Prop}
set_option maxRecDepth 20000 in
/-- Ranges that came in, appended to a row of the call's own. -/
theorem append_rlIn (hgd : o.guard = none) (s x : Operand) (ho : o.op = .call { callee := .builtin .append, args := #[s, x], argTypes := #[22, 22] })
    (base : Nat) (v : Value) (l : List (Nat × Nat)) (hs : a.eval s = v) (hown : w.ownsRow base 25 2 v l.length (vr l)) (q : RL) (hq : q.Ok w) (hx : a.eval x = .slice q.a q.len q.cap) (hl : l.length + q.len ≤ 8388608) (hbase : base ≤ w.heap.size)
    (h : ∀ v' w', w'.ownsRow base 25 2 v' (l ++ q.l).length (vr (l ++ q.l)) → w.grownBy w' v.ownBlock → wpListIn F n Tryz.prog ops Q rest (a.put o.dst v') w') : wpListIn F n Tryz.prog ops Q (o :: rest) a w := by
  obtain ⟨i0, hi, hz0, hz1, hz2⟩ := range_info
  obtain ⟨ad, len, cap, g, off, b⟩ := q
  have hb : b.length = len := hq.hb
  cases ad with
  | none =>
    obtain ⟨h1, h2⟩ := hq.nil rfl
    simp only at h1 h2
    subst h1 h2
    obtain rfl : b = [] := List.eq_nil_of_length_eq_zero hb
    have hrun := run_append_owned_none (P := Tryz.prog) (w := w) base 22 o.type 25 i0 2 Tryz.underlying22 hi v l.length (vr l) hown
    refine wpListIn_plain hgd fun K hK => ⟨(fun f hf => by rw [about_builtin _ _ _ ho] at hf; cases hf), ?_⟩
    rw [Oper.semAt_eq _ _ _ (by simp [ho]), exec_appendR s x _ _ ho v (.slice none 0 0) hs hx w _ _ hrun]
    refine hK _ _ (h _ _ ?_ ⟨rfl, rfl, rfl, Nat.le_refl _, fun _ _ _ => rfl⟩)
    rw [List.append_nil]
    exact hown
  | some ad =>
    refine wpListIn_append_own w hgd s x 22 ho base 25 i0 (.agg (rC2 (0, 0))) 2 16 Tryz.underlying22 hi hz0 hz1 hz2 rfl (by decide) v l.length (vr l) hs hown ad len cap (vr b) hx (by rw [vr_length, hb]; omega) ?_ (vr_one b) (by unfold maxLen; simp only at hl; omega) (by simp only at hl; omega) hbase ?_
    · intro j u hj
      have hjl : j < 2 * b.length := by have := (List.getElem?_eq_some_iff.1 hj).1; rw [vr_length] at this; exact this
      have e := hq.at_ (show 0 < len by omega)
      simp only at e
      injection e with e
      subst e
      rw [add_at]
      have hd := vr_at b (j / 2) (by omega)
      have hc := hq.cell (j / 2) (show j / 2 < len by omega)
      simp only at hc
      rcases Nat.mod_two_eq_zero_or_one j with hm | hm
      · rw [show j / 2 * 2 = j by omega] at hd hc
        rw [hc.1, ← hd.1, hj]
      · rw [show j / 2 * 2 + 1 = j by omega] at hd
        rw [show off + j / 2 * 2 + 1 = off + j by omega] at hc
        rw [hc.2, ← hd.2, hj]
    · intro v' w' h1 h2 _
      refine h v' w' ?_ h2
      rw [vr_append, List.length_append, hb]
      exact h1
end
end Go.Proofs.YtalhfciiflcfbaaGreatDoor
