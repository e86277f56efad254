/-
  What StreamAll keeps in memory: a sender, what came to the other end, frames that are held back.
-/
import Derived.Test.YtnlckmopgkabpaaGsSnLives
import Derived.Test.YtnlckmopgkabpaaGs6
import Derived.Test.YtnlckmopgkabpaaGsPcAlive
namespace Go.Proofs.Ytnlckmopgkabpaa
open Go Go.RowKit

namespace Sr
open Sd
set_option maxHeartbeats 1000000 in
/-- SameBytes of the same bytes, which draws and does nothing else. -/
theorem same_q (p q : SL) (w : World) (hp : p.Ok w) (hq : q.Ok w) (hb : p.b = q.b) (hl : p.len ≤ 8388608) :
    Calls Try.prog 10 #[.slice p.a p.len p.cap, .slice q.a q.len q.cap] w fun e w' => e = .returned (.bool true) ∧ ∃ m, w' = w.drewN m := by
  have hpq : p.len = q.len := by rw [← hp.hb, ← hq.hb, hb]
  obtain ⟨pa, pl, pc, pg, po, pb⟩ := p
  obtain ⟨qa, ql, qc, qg, qo, qb⟩ := q
  simp only at hb hpq hl ⊢
  subst hb hpq
  have HP := veil hp
  have HQ := veil hq
  clear hp hq
  have h1 : ((pl : Int) != (pl : Int)) = false := by simp
  go_enter Try.func10, Try.ntmps10
  go_wp2
  go_loopw [5] (fun i wr => ∃ k : Nat, k ≤ pl ∧ i = .int .i64 k ∧ ∃ m, wr = w.drewN m)
    (fun i _ => pl - (intOf i).toNat)
  case atStart => exact ⟨0, Nat.zero_le _, rfl, 0, rfl⟩
  case round =>
    obtain ⟨k, hk, rfl, m, rfl⟩ := hrel
    by_cases hlt : k < pl
    · have e1 : pa = some ⟨pg, po, none⟩ := HP.out.at_ (show 0 < pl by omega)
      have e2 : qa = some ⟨qg, qo, none⟩ := HQ.out.at_ (show 0 < pl by omega)
      subst e1 e2
      have c1 : w.cell? ⟨pg, po + k, none⟩ = some (.int .u8 (v8 (gb pb k))) := HP.out.cell k hlt
      have c2 : w.cell? ⟨qg, qo + k, none⟩ = some (.int .u8 (v8 (gb pb k))) := HQ.out.cell k hlt
      generalize v8 (gb pb k) = y at *
      have hxy : (y != y) = false := by simp
      go_wp2
      go_region
      all_goals go_wp2
      all_goals
        go_roundw
        case rel => exact ⟨k + 1, by omega, by go_num, m + 1, rfl⟩
        case measure => simp [intOf]; omega
    · obtain rfl : pl = k := by omega
      go_wp2
      go_ret
      exact ⟨rfl, m, rfl⟩
/-- A part of bytes. -/
theorem cut_u (s : SL) (w : World) (h : s.Ok w) (lo hi : Nat) (h1 : lo ≤ hi) (h2 : hi ≤ s.len) : ∃ c : SL, (∀ W, (Instr.sliceAt 22 (.slice s.a s.len s.cap) (some (.int .u64 (lo : Int))) (some (.int .u64 (hi : Int))) none).run Try.prog W = .ok (.slice c.a c.len c.cap) W) ∧
    (c.len = hi - lo ∧ c.b = Sd.cut s.b lo hi) ∧ (∀ W, s.Ok W → c.Ok W) := by
  have hcap := h.hcap
  have hb := h.hb
  have hlen : (Sd.cut s.b lo hi).length = hi - lo := Sd.cut_length h1 (by omega)
  cases ha : s.a with
  | none =>
    obtain ⟨e1, e2⟩ := h.nil ha
    obtain rfl : hi = 0 := by omega
    obtain rfl : lo = 0 := by omega
    refine ⟨⟨none, 0, 0, s.g, s.off, _⟩, fun W => ?_, ⟨rfl, rfl⟩, fun W _ => ⟨hlen, Nat.le_refl _, fun _ => ⟨rfl, rfl⟩, fun p => absurd p (Nat.lt_irrefl _), fun p => absurd p (Nat.lt_irrefl _), fun _ p => absurd p (Nat.not_lt_zero _)⟩⟩
    simp [Instr.sliceAt, Instr.slice, Instr.sliceBounds, Instr.sliceBound, asIntOf, run_underlying Try.underlying22, e1, e2]
  | some ad =>
    refine ⟨⟨some (if s.cap = lo then ad else ad.add lo), hi - lo, s.cap - lo, s.g, s.off + lo, Sd.cut s.b lo hi⟩, fun W => ?_, ⟨rfl, rfl⟩, fun W hW => ⟨hlen, by show hi - lo ≤ s.cap - lo; omega, (fun e => by cases e), fun p => ?_, fun p => hW.lt (by have : 0 < hi - lo := p; omega), fun j hj => ?_⟩⟩
    · simp [Instr.sliceAt, Instr.slice, Instr.sliceBounds, Instr.sliceBound, asIntOf, run_underlying Try.underlying22, show hi ≤ s.cap by omega, h1]
      split <;> rfl
    · have p' : 0 < hi - lo := p
      have e := hW.at_ (by omega)
      rw [ha] at e
      injection e with e
      subst e
      show some (if s.cap = lo then _ else _) = _
      rw [if_neg (by omega), Addr.add_mid]
    · have hj' : j < hi - lo := hj
      have := hW.cell (lo + j) (by omega)
      show W.cell? ⟨s.g, s.off + lo + j, none⟩ = some (.int .u8 (v8 (gb (Sd.cut s.b lo hi) j)))
      rw [Nat.add_assoc, this]
      unfold Sd.cut gb
      rw [List.getElem?_take, if_pos hj', List.getElem?_drop]

/-- A frame, and the block of its data. -/
abbrev Fx := Sd.Fr × Nat
def fxM (x : Fx) : FrM := frT 0 x.1.off x.1.fin x.1.data x.2
def fcs : List Fx → List Value
  | [] => []
  | x :: l => (fxM x).cells.toList ++ fcs l
theorem fcs_append : ∀ (l m : List Fx), fcs (l ++ m) = fcs l ++ fcs m
  | [], m => rfl
  | x :: l, m => by
    show (fxM x).cells.toList ++ fcs (l ++ m) = _
    rw [fcs_append l m, ← List.append_assoc]
    rfl
theorem fcs_one : ∀ (l : List Fx), ∀ u ∈ fcs l, u.oneCell' = true
  | [], u, hu => by cases hu
  | x :: l, u, hu => by
    rcases List.mem_append.1 hu with h | h
    · simp [FrM.cells] at h
      rcases h with rfl | rfl | rfl | rfl | rfl | rfl | rfl | rfl <;> rfl
    · exact fcs_one l u h
theorem fcs_get : ∀ (l : List Fx) (j : Nat) (x : Fx) (i : Nat), l[j]? = some x → i < 8 → (fcs l)[j * 8 + i]? = (fxM x).cells.toList[i]?
  | [], j, x, i, h, _ => by simp at h
  | y :: l, 0, x, i, h, hi => by
    simp at h
    subst h
    show ((fxM y).cells.toList ++ fcs l)[0 * 8 + i]? = _
    rw [List.getElem?_append_left (by show 0 * 8 + i < 8; omega), show 0 * 8 + i = i by omega]
  | y :: l, j + 1, x, i, h, hi => by
    rw [List.getElem?_cons_succ] at h
    show ((fxM y).cells.toList ++ fcs l)[(j + 1) * 8 + i]? = _
    rw [List.getElem?_append_right (by show 8 ≤ _; omega), show (j + 1) * 8 + i - (fxM y).cells.toList.length = j * 8 + i by show (j + 1) * 8 + i - 8 = _; omega]
    exact fcs_get l j x i h hi
theorem Try.infoFrameS : (Try.prog.info? 37).map (fun i => (i.zero, i.size, i.bytes)) = some (some (.agg fr0), 8, 96) := by kernel_rfl
theorem fr_info : ∃ i0, Try.prog.info? 37 = some i0 ∧ i0.zero = some (.agg fr0) ∧ i0.size = 8 ∧ i0.bytes = 96 := by
  have h := Try.infoFrameS
  cases hq : Try.prog.info? 37 with
  | none => rw [hq] at h; cases h
  | some i =>
    rw [hq] at h
    simp only [Option.map_some, Option.some.injEq, Prod.mk.injEq] at h
    exact ⟨i, rfl, h.1, h.2.1, h.2.2⟩
theorem fr_append (w : World) (ty : TypeId) (v : Value) (l : List Fx) (x : Fx) (b : Nat) (h : RowO w 37 8 v l.length (fcs l)) (hr : Row w b 37 (fxM x).cells) (hl : l.length ≤ 100000) :
    ∃ v' w', (Builtin.append_ #[33, 33] ty #[v, .slice (some ⟨b, 0, none⟩) 1 1]).run Try.prog w = .ok v' w' ∧ RowO w' 37 8 v' (l ++ [x]).length (fcs (l ++ [x])) ∧
      (v'.ownBlock = v.ownBlock ∧ v.ownBlock ≠ none ∧ w.grownBy w' v.ownBlock ∨ w.grownBy w' none ∧ (∀ k, v'.ownBlock = some k → k = w.heap.size)) := by
  obtain ⟨i0, h1, h2, h3, h4⟩ := fr_info
  rw [List.length_append, List.length_singleton, fcs_append]
  refine run_append_O (P := Try.prog) w 33 ty 37 i0 _ 8 96 Try.underlying33 h1 h2 h3 h4 rfl (by decide) v l.length (fcs l) h ⟨b, 0, none⟩ 1 1 (fcs [x]) rfl ?_ (fcs_one _) (by unfold maxLen; omega) (by omega)
  intro j u hu
  rw [Addr.add_mid, Nat.zero_add]
  have hj : j < 8 := by
    have := (List.getElem?_eq_some_iff.1 hu).1
    exact this
  have h5 := fcs_get [x] 0 x j rfl hj
  rw [Nat.zero_mul, Nat.zero_add] at h5
  rw [h5] at hu
  rw [← hu]
  have h6 := cell_of_row w b j (fxM x).cells 37 (0, 0) hr
  rw [h6]
  simp
theorem keep_app {v : Value} {A B : World} (h : v.ownBlock ≠ none ∧ A.grownBy B v.ownBlock ∨ A.grownBy B none) : KeepP (fun k => v.ownBlock = some k) A B := by
  rcases h with ⟨_, h⟩ | h
  · exact ⟨h.os, h.tape, h.output, h.size, fun k hk hs => h.block k hk (fun e => hs e.symm)⟩
  · exact ⟨h.os, h.tape, h.output, h.size, fun k hk _ => h.block k hk (by simp)⟩

/-- A frame beside all else. -/
structure FxI (W : World) (own : Nat → Prop) (pg pm : Nat) (hv : Value) (x : Fx) : Prop where
  hf : FrH W own (fxM x)
  ne : 0 < x.1.data.length → x.2 ≠ pg ∧ x.2 ≠ pm ∧ hv.ownBlock ≠ some x.2
structure AlM (w : World) (g pg pm : Nat) (s : Snd) (P : PS) (own : Nat → Prop) (hv : Value) (l : List Fx) (W : World) : Prop where
  sn : SnA w W g s own
  pc : PcOk W pg pm P
  pw : w.heap.size ≤ pg ∧ w.heap.size ≤ pm
  pn : ¬ own pg ∧ ¬ own pm
  hr : RowO W 37 8 hv l.length (fcs l)
  hw : ∀ k, hv.ownBlock = some k → w.heap.size ≤ k ∧ ¬ own k ∧ k ≠ pg ∧ k ≠ pm
  fr : ∀ x ∈ l, FxI W own pg pm hv x
/-- A variable that holds the frame of now. -/
structure FxV (W : World) (own : Nat → Prop) (pg pm : Nat) (hv : Value) (r : Nat) (x : Fx) : Prop where
  row : Row W r 37 (fxM x).cells
  nr : ¬ own r ∧ r ≠ pg ∧ r ≠ pm ∧ hv.ownBlock ≠ some r
  hf : FxI W own pg pm hv x
section
variable {w W W' : World} {g pg pm : Nat} {s s' : Snd} {P P' : PS} {own own' : Nat → Prop} {hv hv' : Value} {l : List Fx} {x : Fx} {r : Nat}
theorem FxI.below (h : FxI W own pg pm hv x) (hb : Below W.heap.size W W') : FxI W' own pg pm hv x := ⟨h.hf.below hb, h.ne⟩
theorem FxI.after (h : FxI W own pg pm hv x) (a : After own W W' own') : FxI W' own' pg pm hv x := ⟨h.hf.after a, h.ne⟩
theorem FxI.keep {st : Nat → Prop} (h : FxI W own pg pm hv x) (k : KeepP st W W') (hs : 0 < x.1.data.length → ¬ st x.2) : FxI W' own pg pm hv x :=
  ⟨⟨⟨sl_keepP h.hf.ok.data k hs, h.hf.ok.ranges.same (fun p => absurd p (Nat.lt_irrefl _)) k.size, h.hf.ok.k8, h.hf.ok.st, h.hf.ok.of, h.hf.ok.li, h.hf.ok.co⟩, h.hf.nd, h.hf.nil⟩, h.ne⟩
theorem FxI.lt (h : FxI W own pg pm hv x) (hx : 0 < x.1.data.length) : x.2 < W.heap.size := h.hf.ok.data.lt hx
theorem pc_keep {st : Nat → Prop} (h : PcOk W pg pm P) (k : KeepP st W W') (hg : ¬ st pg) (hm : ¬ st pm) : PcOk W' pg pm P := h.same (k.block _ h.row.lt hg) (k.block _ h.map.lt hm)
theorem AlM.below (h : AlM w g pg pm s P own hv l W) (hb : Below W.heap.size W W') : AlM w g pg pm s P own hv l W' :=
  ⟨h.sn.below hb, pc_keep h.pc (KeepP.of_below (st := fun _ => False) hb) (fun q => q) (fun q => q), h.pw, h.pn, h.hr.below hb, h.hw, fun x hx => (h.fr x hx).below hb⟩
theorem AlM.after (h : AlM w g pg pm s P own hv l W) (hs : SnS W' g s' own') (a : After own W W' own') : AlM w g pg pm s' P own' hv l W' := by
  have no : ∀ k, k < W.heap.size → ¬ own k → ¬ own' k := fun k h1 h2 e => (a.2 k e).elim h2 (fun q => by omega)
  exact ⟨h.sn.after hs a, pc_keep h.pc a.1 h.pn.1 h.pn.2, h.pw, ⟨no _ h.pc.row.lt h.pn.1, no _ h.pc.map.lt h.pn.2⟩, h.hr.same (fun k e => a.1.block k (h.hr.lt k e) (h.hw k e).2.1), fun k e => ⟨(h.hw k e).1, no k (h.hr.lt k e) (h.hw k e).2.1, (h.hw k e).2.2⟩, fun x hx => (h.fr x hx).after a⟩
theorem AlM.put (h : AlM w g pg pm s P own hv l W) (hp : PcOk W' pg pm P') (k : KeepP (Two pg pm) W W') : AlM w g pg pm s P' own hv l W' := by
  have n1 : ∀ q, own q → ¬ Two pg pm q := fun q e t => by
    rcases t with t | t
    · exact h.pn.1 (t ▸ e)
    · exact h.pn.2 (t ▸ e)
  exact ⟨⟨h.sn.sn.keep k n1, h.sn.bel.trans (k.below (fun q t => Or.elim t (fun t => by rw [t]; exact h.pw.1) (fun t => by rw [t]; exact h.pw.2)) h.sn.bel.size), h.sn.ow⟩, hp, h.pw, h.pn, h.hr.same (fun q e => k.block q (h.hr.lt q e) (fun t => Or.elim t (fun t => (h.hw q e).2.2.1 t) (fun t => (h.hw q e).2.2.2 t))), h.hw,
    fun x hx => (h.fr x hx).keep k (fun p t => Or.elim t (fun t => ((h.fr x hx).ne p).1 t) (fun t => ((h.fr x hx).ne p).2.1 t))⟩
theorem AlM.app (h : AlM w g pg pm s P own hv l W) (hx : FxI W own pg pm hv x) (hr : RowO W' 37 8 hv' (l ++ [x]).length (fcs (l ++ [x])))
    (ho : hv'.ownBlock = hv.ownBlock ∧ hv.ownBlock ≠ none ∧ W.grownBy W' hv.ownBlock ∨ W.grownBy W' none ∧ (∀ k, hv'.ownBlock = some k → k = W.heap.size)) : AlM w g pg pm s P own hv' (l ++ [x]) W' := by
  have k : KeepP (fun k => hv.ownBlock = some k) W W' := keep_app (ho.imp (fun q => q.2) (fun q => q.1))
  have ob : ∀ q, hv'.ownBlock = some q → hv.ownBlock = some q ∨ q = W.heap.size := fun q e => ho.elim (fun z => .inl (z.1 ▸ e)) (fun z => .inr (z.2 q e))
  have fx : ∀ y, FxI W own pg pm hv y → FxI W' own pg pm hv' y := fun y hy =>
    ⟨(hy.keep k (fun p => (hy.ne p).2.2)).hf, fun p => ⟨(hy.ne p).1, (hy.ne p).2.1, fun e => (ob _ e).elim (hy.ne p).2.2 (fun q => by have := hy.lt p; omega)⟩⟩
  refine ⟨⟨h.sn.sn.keep k (fun q e t => (h.hw q t).2.1 e), h.sn.bel.trans (k.below (fun q t => (h.hw q t).1) h.sn.bel.size), h.sn.ow⟩, pc_keep h.pc k (fun t => (h.hw _ t).2.2.1 rfl) (fun t => (h.hw _ t).2.2.2 rfl), h.pw, h.pn, hr, fun q e => ?_, fun y hy => ?_⟩
  · rcases ob q e with t | t
    · exact h.hw q t
    · have h1 := snS_lt h.sn.sn
      have h2 := h.pc.row.lt
      have h3 := h.pc.map.lt
      refine ⟨by rw [t]; exact h.sn.bel.size, fun o => ?_, by omega, by omega⟩
      have := h1 q o; omega
  · rcases List.mem_append.1 hy with q | q
    · exact fx y (h.fr y q)
    · rw [List.mem_singleton.1 q]; exact fx x hx
theorem FxV.below (h : FxV W own pg pm hv r x) (hb : Below W.heap.size W W') : FxV W' own pg pm hv r x := ⟨h.row.below hb h.row.lt, h.nr, h.hf.below hb⟩
theorem FxV.after (h : FxV W own pg pm hv r x) (a : After own W W' own') : FxV W' own' pg pm hv r x :=
  ⟨(a.1.block r h.row.lt h.nr.1).trans h.row, ⟨fun e => (a.2 r e).elim h.nr.1 (fun q => by have := h.row.lt; omega), h.nr.2⟩, h.hf.after a⟩
theorem FxV.put (h : FxV W own pg pm hv r x) (k : KeepP (Two pg pm) W W') : FxV W' own pg pm hv r x :=
  ⟨(k.block r h.row.lt (fun t => Or.elim t (fun t => h.nr.2.1 t) (fun t => h.nr.2.2.1 t))).trans h.row, h.nr, h.hf.keep k (fun p t => Or.elim t (fun t => (h.hf.ne p).1 t) (fun t => (h.hf.ne p).2.1 t))⟩
/-- A new variable for a frame. -/
theorem FxV.new (h : AlM w g pg pm s P own hv l W) (hx : FxI W own pg pm hv x) : FxV (W.alloc (.cells (fxM x).cells 37)) own pg pm hv W.heap.size x := by
  have h1 := snS_lt h.sn.sn
  have h2 := h.pc.row.lt
  have h3 := h.pc.map.lt
  refine ⟨Row.new _ _ _, ⟨fun e => Nat.lt_irrefl _ (h1 _ e), by omega, by omega, fun e => Nat.lt_irrefl _ (h.hr.lt _ e)⟩, hx.below ((Below.refl _ W).alloc (Nat.le_refl _) _)⟩
/-- A frame that was just taken. -/
theorem FxI.taken (h : AlM w g pg pm s P own hv l W) {p : Nat} {fn : Bool} {d : List By} {b : Nat} (hf : FrH W' own' (frT 0 p fn d b)) (hb : W.heap.size ≤ b) : FxI W' own' pg pm hv (⟨p, d, fn⟩, b) := by
  have h2 := h.pc.row.lt
  have h3 := h.pc.map.lt
  exact ⟨hf, fun _ => ⟨by show b ≠ pg; omega, by show b ≠ pm; omega, fun e => by have := h.hr.lt _ e; have : b < W.heap.size := this; omega⟩⟩
end
end Sr
end Go.Proofs.Ytnlckmopgkabpaa
