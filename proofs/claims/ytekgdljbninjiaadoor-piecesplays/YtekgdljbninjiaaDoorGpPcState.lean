/-
  What PiecesPlays has in memory between two calls.
-/
import Derived.Test.YtekgdljbninjiaaDoorGpPcOpt
import Derived.Test.YtekgdljbninjiaaDoorGpPcBook
namespace Go.Proofs.YtekgdljbninjiaaDoor
open Go Go.RowKit Go.Maps Go.Shelf

def zeroC : Array Value := #[.int .u64 0, .map none, .int .u64 0, .int .u64 0, .bool false]
/-- Both sides' pieces, the zero pieces, the book; blocks that nothing of it is. -/
structure PlS (w : World) (P : Option Addr) (g m : Nat) (R : Option Addr) (r gt gb z B n : Nat) (own ex : Nat → Prop) (xp xr : Option PS) (W : World) : Prop where
  pv : PV W P g m xp
  rv : RV W R r gt gb xr
  bk : Ba.BkI w.heap.size B n own W
  zr : Row W z 34 zeroC
  ot : ∀ b, own b → ¬ oTwo xp g m b ∧ ¬ oThr xr r gt gb b ∧ b ≠ z ∧ b < W.heap.size
  tt : ∀ b, oThr xr r gt gb b → ¬ oTwo xp g m b ∧ b ≠ z
  tz : ¬ oTwo xp g m z
  lo : ∀ b, own b ∨ oTwo xp g m b ∨ oThr xr r gt gb b ∨ b = z → w.heap.size ≤ b
  exs : ∀ b, ex b → b < W.heap.size ∧ ¬ own b ∧ ¬ oTwo xp g m b ∧ ¬ oThr xr r gt gb b ∧ b ≠ z
  bel : Below w.heap.size w W
def Pl (w : World) (P : Option Addr) (g m : Nat) (R : Option Addr) (r z B n : Nat) (ex : Nat → Prop) (xp xr : Option PS) (W : World) : Prop := ∃ gt gb own, PlS w P g m R r gt gb z B n own ex xp xr W
/-- Blocks that stay. -/
def Stay (ex : Nat → Prop) (W W' : World) : Prop := (∀ b, ex b → W'.heap[b]? = W.heap[b]?) ∧ W.heap.size ≤ W'.heap.size

section
variable {w W W' : World} {P R : Option Addr} {g m r z B n : Nat} {ex ex' : Nat → Prop} {xp xr : Option PS}
theorem Pl.below (h : Pl w P g m R r z B n ex xp xr W) (hb : Below W.heap.size W W') : Pl w P g m R r z B n ex xp xr W' := by
  obtain ⟨gt, gb, own, h⟩ := h
  exact ⟨gt, gb, own, h.pv.below hb, h.rv.below hb, h.bk.below hb, h.zr.below hb h.zr.lt, fun b e => ⟨(h.ot b e).1, (h.ot b e).2.1, (h.ot b e).2.2.1, Nat.lt_of_lt_of_le (h.ot b e).2.2.2 hb.size⟩, h.tt, h.tz, h.lo, fun b e => ⟨Nat.lt_of_lt_of_le (h.exs b e).1 hb.size, (h.exs b e).2⟩, h.bel.trans (hb.mono h.bel.size)⟩
theorem Pl.less (h : Pl w P g m R r z B n ex xp xr W) (hx : ∀ b, ex' b → ex b) : Pl w P g m R r z B n ex' xp xr W := by
  obtain ⟨gt, gb, own, h⟩ := h
  exact ⟨gt, gb, own, h.pv, h.rv, h.bk, h.zr, h.ot, h.tt, h.tz, h.lo, fun b e => h.exs b (hx b e), h.bel⟩
theorem Pl.bel (h : Pl w P g m R r z B n ex xp xr W) : Below w.heap.size w W := by
  obtain ⟨gt, gb, own, h⟩ := h
  exact h.bel
theorem Pl.zcell (h : Pl w P g m R r z B n ex xp xr W) : W.cell? ⟨z, 1, none⟩ = some (.map none) ∧ z < W.heap.size := by
  obtain ⟨gt, gb, own, h⟩ := h
  exact ⟨h.zr.cell 1, h.zr.lt⟩
/-- A block that is new. -/
theorem Pl.more (h : Pl w P g m R r z B n ex xp xr W) (hb : Below W.heap.size W W') (new : Nat → Prop) (hn : ∀ b, new b → W.heap.size ≤ b ∧ b < W'.heap.size) : Pl w P g m R r z B n (fun b => ex b ∨ new b) xp xr W' := by
  obtain ⟨gt, gb, own, h2⟩ := h.below hb
  obtain ⟨gt1, gb1, own1, h1⟩ := h
  refine ⟨gt1, gb1, own1, h1.pv.below hb, h1.rv.below hb, h1.bk.below hb, h1.zr.below hb h1.zr.lt, fun b e => ⟨(h1.ot b e).1, (h1.ot b e).2.1, (h1.ot b e).2.2.1, Nat.lt_of_lt_of_le (h1.ot b e).2.2.2 hb.size⟩, h1.tt, h1.tz, h1.lo, fun b e => ?_, h1.bel.trans (hb.mono h1.bel.size)⟩
  rcases e with e | e
  · exact ⟨Nat.lt_of_lt_of_le (h1.exs b e).1 hb.size, (h1.exs b e).2⟩
  · obtain ⟨q1, q2⟩ := hn b e
    refine ⟨q2, fun e2 => ?_, fun e2 => ?_, fun e2 => ?_, fun e2 => ?_⟩
    · have := (h1.ot b e2).2.2.2; omega
    · have := h1.pv.lt b e2; omega
    · have := h1.rv.lt b e2; omega
    · have := h1.zr.lt; omega
theorem low_of {lo : Nat} {st : Nat → Prop} (k : KeepP st W W') (hlo : lo ≤ W.heap.size) (hs : ∀ b, st b → lo ≤ b) : Below lo W W' := ⟨k.os, k.tape, k.output, k.size, fun b hb => k.block b (by omega) (fun e => by have := hs b e; omega)⟩
/-- The program's pieces were changed; new blocks may be named. -/
theorem PlS.onP {gt gb : Nat} {own : Nat → Prop} {xp' : Option PS} (h : PlS w P g m R r gt gb z B n own ex xp xr W) (k : KeepP (oTwo xp g m) W W') (hp : PV W' P g m xp') (hs : xp'.isSome = xp.isSome) (new : Nat → Prop) (hn : ∀ b, new b → W.heap.size ≤ b ∧ b < W'.heap.size) :
    PlS w P g m R r gt gb z B n own (fun b => ex b ∨ new b) xp' xr W' ∧ Stay ex W W' := by
  have two : ∀ b, oTwo xp' g m b ↔ oTwo xp g m b := fun b => by unfold oTwo; rw [hs]
  refine ⟨⟨hp, h.rv.keep k (fun b e => (h.tt b e).1), h.bk.keep k (fun b e => (h.ot b e).1), k.row h.zr h.tz, fun b e => ⟨fun q => (h.ot b e).1 ((two b).1 q), (h.ot b e).2.1, (h.ot b e).2.2.1, Nat.lt_of_lt_of_le (h.ot b e).2.2.2 k.size⟩, fun b e => ⟨fun q => (h.tt b e).1 ((two b).1 q), (h.tt b e).2⟩, fun q => h.tz ((two z).1 q), fun b e => h.lo b ?_, fun b e => ?_, h.bel.trans (low_of k h.bel.size (fun b e => h.lo b (.inr (.inl e))))⟩, (fun b e => k.block b (h.exs b e).1 (h.exs b e).2.2.1), k.size⟩
  · rw [two] at e; exact e
  · rw [two]
    rcases e with e | e
    · exact ⟨Nat.lt_of_lt_of_le (h.exs b e).1 k.size, (h.exs b e).2⟩
    · obtain ⟨q1, q2⟩ := hn b e
      refine ⟨q2, fun e2 => ?_, fun e2 => ?_, fun e2 => ?_, fun e2 => ?_⟩
      · have := (h.ot b e2).2.2.2; omega
      · have := h.pv.lt b e2; omega
      · have := h.rv.lt b e2; omega
      · have := h.zr.lt; omega
/-- The document's pieces were changed. -/
theorem PlS.onR {gt gb gt' gb' : Nat} {own : Nat → Prop} {xr' : Option PS} (h : PlS w P g m R r gt gb z B n own ex xp xr W) (k : KeepP (oThr xr r gt gb) W W') (hr : RV W' R r gt' gb' xr') (hs : xr'.isSome = xr.isSome) (hx : RNext W xr r gt gb gt' gb') (new : Nat → Prop) (hn : ∀ b, new b → W.heap.size ≤ b ∧ b < W'.heap.size) (hnr : ∀ b, new b → ¬ oThr xr r gt' gb' b) :
    PlS w P g m R r gt' gb' z B n own (fun b => ex b ∨ new b) xp xr' W' ∧ Stay ex W W' := by
  have thr : ∀ b, oThr xr' r gt' gb' b ↔ oThr xr r gt' gb' b := fun b => by unfold oThr; rw [hs]
  have hz := h.bel.size
  refine ⟨⟨h.pv.keep k (fun b e q => (h.tt b q).1 e), hr, h.bk.keep k (fun b e => (h.ot b e).2.1), k.row h.zr (fun e => (h.tt z e).2 rfl), fun b e => ⟨(h.ot b e).1, fun q => ?_, (h.ot b e).2.2.1, Nat.lt_of_lt_of_le (h.ot b e).2.2.2 k.size⟩, fun b e => ?_, h.tz, fun b e => ?_, fun b e => ?_, h.bel.trans (low_of k h.bel.size (fun b e => h.lo b (.inr (.inr (.inl e)))))⟩, (fun b e => k.block b (h.exs b e).1 (h.exs b e).2.2.2.1), k.size⟩
  · rcases hx b ((thr b).1 q) with q2 | q2
    · exact (h.ot b e).2.1 q2
    · have := (h.ot b e).2.2.2; omega
  · rcases hx b ((thr b).1 e) with q2 | q2
    · exact h.tt b q2
    · exact ⟨fun q => by have := h.pv.lt b q; omega, fun q => by have := h.zr.lt; omega⟩
  · rcases e with e | e | e | e
    · exact h.lo b (.inl e)
    · exact h.lo b (.inr (.inl e))
    · rcases hx b ((thr b).1 e) with q2 | q2
      · exact h.lo b (.inr (.inr (.inl q2)))
      · omega
    · exact h.lo b (.inr (.inr (.inr e)))
  · rcases e with e | e
    · refine ⟨Nat.lt_of_lt_of_le (h.exs b e).1 k.size, (h.exs b e).2.1, (h.exs b e).2.2.1, fun q => ?_, (h.exs b e).2.2.2.2⟩
      rcases hx b ((thr b).1 q) with q2 | q2
      · exact (h.exs b e).2.2.2.1 q2
      · have := (h.exs b e).1; omega
    · obtain ⟨q1, q2⟩ := hn b e
      refine ⟨q2, fun e2 => ?_, fun e2 => ?_, fun e2 => hnr b e ((thr b).1 e2), fun e2 => ?_⟩
      · have := (h.ot b e2).2.2.2; omega
      · have := h.pv.lt b e2; omega
      · have := h.zr.lt; omega
end
theorem oPut_some (x : Option PS) (p : Nat) (b : List By) (last : Bool) : (Pc.oPut x p b last).isSome = x.isSome := by cases x <;> rfl
theorem oTake_some (x : Option PS) (N : Nat) : (Pc.oTake x N).isSome = x.isSome := by cases x <;> rfl

section
variable (w W : World) (P R : Option Addr) (g m r z B n : Nat) (ex : Nat → Prop) (xp xr : Option PS)
theorem c_put (h : Pl w P g m R r z B n ex xp xr W) (p : Nat) (s : SL) (last : Bool) (hs : s.Ok W) (hl : s.len ≤ 4611686018427387903) :
    Calls Tryd.prog 8 #[.pointer P, .int .u64 (p : Int), .slice s.a s.len s.cap, .bool last] W fun e w' => e = .returned (.int .i64 (Pc.oE xp p s.len last : Int)) ∧ Pl w P g m R r z B n ex (Pc.oPut xp p s.b last) xr w' ∧ Stay ex W w' := by
  obtain ⟨gt, gb, own, h⟩ := h
  refine (put_o xp P g m p s last W h.pv hs hl).mono ?_
  rintro e w' ⟨rfl, h1, h2⟩
  obtain ⟨h3, h4⟩ := h.onP h2 h1 (oPut_some _ _ _ _) (fun _ => False) (fun _ e => e.elim)
  exact ⟨rfl, Pl.less (ex := fun b => ex b ∨ False) ⟨gt, gb, own, h3⟩ (fun b e => .inl e), h4⟩
theorem c_rput (h : Pl w P g m R r z B n ex xp xr W) (p : Nat) (s : SL) (last : Bool) (hs : s.Ok W) (hsg : 0 < s.len → s.g < w.heap.size) (hl : s.len ≤ 4611686018427387903) :
    Calls Tryd.prog 9 #[.pointer R, .int .u64 (p : Int), .slice s.a s.len s.cap, .bool last] W fun e w' => e = .returned (.int .i64 (Pc.oE xr p s.len last : Int)) ∧ Pl w P g m R r z B n ex xp (Pc.oPut xr p s.b last) w' ∧ Stay ex W w' := by
  obtain ⟨gt, gb, own, h⟩ := h
  refine (rput_o xr R r gt gb p s last W h.rv hs (fun q e => by have := hsg q; have := h.lo s.g (.inr (.inr (.inl e))); omega) hl).mono ?_
  rintro e w' ⟨rfl, ⟨gt', gb', h1, h5⟩, h2⟩
  obtain ⟨h3, h4⟩ := h.onR h2 h1 (oPut_some _ _ _ _) h5 (fun _ => False) (fun _ e => e.elim) (fun _ e => e.elim)
  exact ⟨rfl, Pl.less (ex := fun b => ex b ∨ False) ⟨gt', gb', own, h3⟩ (fun b e => .inl e), h4⟩
theorem own_lt {W : World} {S e z n : Nat} {v : Value} {xs : List Value} (h : W.ownsRow S e z v n xs) : ∀ b, v.ownBlock = some b → S ≤ b ∧ b < W.heap.size := fun b e => h.lt b e
theorem c_take (h : Pl w P g m R r z B n ex xp xr W) (N : Nat) (hN : N ≤ 9223372036854775807) :
    Calls Tryd.prog 11 #[.pointer P, .int .i64 (N : Int)] W fun e w' => ∃ v, e = .returned (.tuple #[v, .bool (Pc.oEnd xp N), .int .i64 (Pc.oTE xp : Int)]) ∧ w'.ownsRow W.heap.size 5 1 v (Pc.oL xp N).length (vb (Pc.oL xp N)) ∧ Pl w P g m R r z B n (fun b => ex b ∨ v.ownBlock = some b) (Pc.oTake xp N) xr w' ∧ Stay ex W w' := by
  obtain ⟨gt, gb, own, h⟩ := h
  refine (take_o xp P g m N W h.pv hN).mono ?_
  rintro e w' ⟨v, rfl, h0, h1, h2⟩
  obtain ⟨h3, h4⟩ := h.onP h2 h1 (oTake_some _ _) (fun b => v.ownBlock = some b) (fun b e => own_lt h0 b e)
  exact ⟨v, rfl, h0, ⟨gt, gb, own, h3⟩, h4⟩
theorem c_rtake (h : Pl w P g m R r z B n ex xp xr W) (N : Nat) (hN : N ≤ 9223372036854775807) :
    Calls Tryd.prog 12 #[.pointer R, .int .i64 (N : Int)] W fun e w' => ∃ v, e = .returned (.tuple #[v, .bool (Pc.oEnd xr N), .int .i64 (Pc.oTE xr : Int)]) ∧ w'.ownsRow W.heap.size 5 1 v (Pc.oL xr N).length (vb (Pc.oL xr N)) ∧ Pl w P g m R r z B n ex xp (Pc.oTake xr N) w' ∧ Stay ex W w' := by
  obtain ⟨gt, gb, own, h⟩ := h
  refine (rtake_o xr R r gt gb N W h.rv hN).mono ?_
  rintro e w' ⟨v, rfl, h0, ⟨gt', gb', h1, h5⟩, h2⟩
  obtain ⟨h3, h4⟩ := h.onR h2 h1 (oTake_some _ _) h5 (fun _ => False) (fun _ e => e.elim) (fun _ e => e.elim)
  exact ⟨v, rfl, h0, Pl.less (ex := fun b => ex b ∨ False) ⟨gt', gb', own, h3⟩ (fun b e => .inl e), h4⟩
theorem c_tell (h : Pl w P g m R r z B n ex xp xr W) (hn : n ≤ 900) (al : Option Addr) (nl cl : Nat) (xl : List Value) (hl : W.ownsRow w.heap.size 5 1 (.slice al nl cl) nl xl) (hnl : nl ≤ 5000000) (hx : ∀ b, (Value.slice al nl cl).ownBlock = some b → ex b) :
    Calls Tryd.prog 14 #[.pointer (some ⟨B, 0, none⟩), .slice al nl cl] W fun e w' => e = .returned (.tuple #[]) ∧ Pl w P g m R r z B (n + 1) (fun b => ex b ∧ (Value.slice al nl cl).ownBlock ≠ some b) xp xr w' ∧ Stay ex W w' := by
  obtain ⟨gt, gb, own, h⟩ := h
  refine (Ba.tell_any w.heap.size B n own W al nl cl xl h.bk hn hl hnl (fun b e => (h.exs b (hx b e)).2.1)).mono ?_
  rintro e w' ⟨rfl, k, own', h1, h2⟩
  have hz := h.bel.size
  refine ⟨rfl, ⟨gt, gb, fun b => own' b ∧ b < w'.heap.size, h.pv.keep k (fun b e q => (h.ot b q).1 e), h.rv.keep k (fun b e q => (h.ot b q).2.1 e), ?_, k.row h.zr (fun e => (h.ot z e).2.2.1 rfl), fun b e => ?_, h.tt, h.tz, fun b e => ?_, fun b e => ?_, h.bel.trans (low_of k h.bel.size (fun b e => h.lo b (.inl e)))⟩, (fun b e => k.block b (h.exs b e).1 (h.exs b e).2.1), k.size⟩
  · obtain ⟨⟨V, E, nu, N, X, hd, q1, q2, q3⟩, r1, r2, r3, r4, r5, r6⟩ := h1
    refine ⟨⟨V, E, nu, N, X, hd, q1, q2, fun b e => ⟨q3 b e, ?_⟩⟩, r1, r2, r3, r4, r5, r6, r5⟩
    rcases e with e | ⟨i, hi, e⟩
    · exact (hd.ent.lt b e).2
    · exact ((hd.rows i hi).lt b e).2
  · rcases h2 b e.1 with q | q | q
    · exact ⟨(h.ot b q).1, (h.ot b q).2.1, (h.ot b q).2.2.1, e.2⟩
    · have := h.exs b (hx b q); exact ⟨this.2.2.1, this.2.2.2.1, this.2.2.2.2, e.2⟩
    · exact ⟨fun e2 => by have := h.pv.lt b e2; omega, fun e2 => by have := h.rv.lt b e2; omega, fun e2 => by have := h.zr.lt; omega, e.2⟩
  · rcases e with e | e
    · rcases h2 b e.1 with q | q | q
      · exact h.lo b (.inl q)
      · exact (hl.lt b q).1
      · omega
    · exact h.lo b (.inr e)
  · refine ⟨Nat.lt_of_lt_of_le (h.exs b e.1).1 k.size, fun q => ?_, (h.exs b e.1).2.2⟩
    rcases h2 b q.1 with q | q | q
    · exact (h.exs b e.1).2.1 q
    · exact e.2 q
    · have := (h.exs b e.1).1; omega
theorem c_apart (h : Pl w P g m R r z B n ex xp xr W) (hn : n ≤ 1000) :
    Calls Tryd.prog 21 #[.pointer (some ⟨B, 0, none⟩)] W fun e w' => e = .returned (.bool true) ∧ (∃ gt gb, PV w' P g m xp ∧ RV w' R r gt gb xr ∧ (∀ b, oThr xr r gt gb b → ¬ oTwo xp g m b ∧ b ≠ z) ∧ (∀ b, oTwo xp g m b ∨ oThr xr r gt gb b → w.heap.size ≤ b) ∧ ¬ oTwo xp g m z) ∧ Row w' z 34 zeroC ∧ Below w.heap.size w w' := by
  obtain ⟨gt, gb, own, h⟩ := h
  refine (Ba.apart_any w.heap.size B n own W h.bk hn).mono ?_
  rintro e w' ⟨rfl, k⟩
  exact ⟨rfl, ⟨gt, gb, h.pv.keep k (fun b e q => (h.ot b q).1 e), h.rv.keep k (fun b e q => (h.ot b q).2.1 e), h.tt, (fun b e => h.lo b (by rcases e with e | e; exact .inr (.inl e); exact .inr (.inr (.inl e)))), h.tz⟩, k.row h.zr (fun e => (h.ot z e).2.2.1 rfl), h.bel.trans (low_of k h.bel.size (fun b e => h.lo b (.inl e)))⟩
end
end Go.Proofs.YtekgdljbninjiaaDoor
