/-
  A Book that is told lists of these kinds: Number, Range; older or newer than it. Written by mkbw.py.
-/
import Derived.Test.YtohoieleakieeaaGreatDoorGlBwNumber
import Derived.Test.YtohoieleakieeaaGreatDoorGlBwRange
namespace Go.Proofs.YtohoieleakieeaaGreatDoor.Bw
open Go Go.RowKit
open Go.Proofs.YtohoieleakieeaaGreatDoor.Bq (OwnB own_keepP below_keepP keep_grown keep_below Sep)

/-- A book that was told nn lists; own: the blocks that are its own. -/
structure BwNR (S B nn : Nat) (own : Nat → Prop) (W : World) : Prop where
  cnt : W.cell? ⟨B, 0, none⟩ = some (.int .i64 (nn : Int))
  kNumber : Kd S B 2 102 23 1 nn (fun _ => True) own W
  kRange : Kd S B 6 100 63 2 nn (fun x => ∃ l, x = vr l) own W
  em : ∀ j, 1 ≤ j → j < 13 → j ≠ 2 → j ≠ 6 → W.cell? ⟨B, j, none⟩ = some (.slice none 0 0)
  fz : ∀ q, W.frozen? ⟨B, q, none⟩ = false
  SB : S ≤ B
  bB : B < W.heap.size
  oB : own B
theorem BwNR.keep {S B nn : Nat} {own st : Nat → Prop} {W W' : World} (h : BwNR S B nn own W) (k : KeepP st W W') (hs : ∀ b, own b → ¬ st b) : BwNR S B nn own W' := by
  have hb : W'.heap[B]? = W.heap[B]? := k.block B h.bB (hs B h.oB)
  exact ⟨(World.cell?_of_block (a := ⟨B, 0, none⟩) hb).trans h.cnt, h.kNumber.keep h.bB k hs h.oB, h.kRange.keep h.bB k hs h.oB, fun j q1 q2 p0 p1 => (World.cell?_of_block (a := ⟨B, j, none⟩) hb).trans (h.em j q1 q2 p0 p1), fun j => (World.frozen?_of_block (a := ⟨B, j, none⟩) hb).trans (h.fz j), h.SB, Nat.lt_of_lt_of_le h.bB k.size, h.oB⟩
theorem BwNR.below {S B nn : Nat} {own : Nat → Prop} {W W' : World} (h : BwNR S B nn own W) (hb : Below W.heap.size W W') : BwNR S B nn own W' := h.keep (st := fun _ => False) (KeepP.of_below hb) (fun _ _ e => e)
theorem BwNR.new (S : Nat) (W : World) (t : TypeId) (hS : S ≤ W.heap.size) : BwNR S W.heap.size 0 (fun b => b = W.heap.size) (W.alloc (.cells #[.int .i64 0, .slice none 0 0, .slice none 0 0, .slice none 0 0, .slice none 0 0, .slice none 0 0, .slice none 0 0, .slice none 0 0, .slice none 0 0, .slice none 0 0, .slice none 0 0, .slice none 0 0, .slice none 0 0] t)) :=
  ⟨new_count W t, Kd.fresh t (by decide) (by decide) _, Kd.fresh t (by decide) (by decide) _, fun j h1 h2 _ _ => new_cell W t j h1 h2, new_frozen W t, hS, by simp, rfl⟩
/-- A list that the book does not know is told. -/
theorem BwNR.tellNumber {S B nn : Nat} {own : Nat → Prop} {W : World} (h : BwNR S B nn own W) (al : Option Addr) (nl cl : Nat) (xl : List Value) (hn : nn ≤ 2900000) (hl : W.ownsRow S 23 1 (.slice al nl cl) nl xl) (hnl : nl ≤ 5000000) (hx : ∀ k, (Value.slice al nl cl).ownBlock = some k → ¬ own k) :
    Calls Tryz.prog 15 #[.pointer (some ⟨B, 0, none⟩), .slice al nl cl] W fun e w' => e = .returned (.tuple #[]) ∧ KeepP own W w' ∧ BwNR S B (nn + 1) (ownL own (.slice al nl cl) W.heap.size) w' := by
  obtain ⟨m, V, E, nu, N, F, h1, h2, h3, h4, h5, h6⟩ := h.kNumber
  refine (toldNumbers S B nn m V _ W al nl cl (by omega) (by omega) h.cnt h2.b h.fz h.bB (Nat.le_trans h.SB (Nat.le_of_lt h.bB)) h2.ent h2.vB).mono ?_
  rintro e w' ⟨rfl, g, c, t⟩
  exact ⟨rfl, told_keep t h.oB (fun b e => h6 b (.inl e)), ⟨t.n, Kd.tell h1 h2 h3 h4 h5 h6 h.bB h.oB t hl hx hnl trivial, h.kRange.stay (by decide) (by decide) (by decide) (by decide) h2.ent t, fun q q1 q2 p0 p1 => (t.oth q (by omega) p0).trans (h.em q q1 q2 p0 p1), fun q => (t.fz q).trans (h.fz q), h.SB, Nat.lt_of_lt_of_le h.bB t.keep.size, .inl h.oB⟩⟩
/-- A list that the book does not know is told. -/
theorem BwNR.tellRange {S B nn : Nat} {own : Nat → Prop} {W : World} (h : BwNR S B nn own W) (al : Option Addr) (nl cl : Nat) (xl : List (Nat × Nat)) (hn : nn ≤ 2900000) (hl : W.ownsRow S 63 2 (.slice al nl cl) nl (vr xl)) (hnl : nl ≤ 5000000) (hx : ∀ k, (Value.slice al nl cl).ownBlock = some k → ¬ own k) :
    Calls Tryz.prog 14 #[.pointer (some ⟨B, 0, none⟩), .slice al nl cl] W fun e w' => e = .returned (.tuple #[]) ∧ KeepP own W w' ∧ BwNR S B (nn + 1) (ownL own (.slice al nl cl) W.heap.size) w' := by
  obtain ⟨m, V, E, nu, N, F, h1, h2, h3, h4, h5, h6⟩ := h.kRange
  refine (toldRanges S B nn m V _ W al nl cl (by omega) (by omega) h.cnt h2.b h.fz h.bB (Nat.le_trans h.SB (Nat.le_of_lt h.bB)) h2.ent h2.vB).mono ?_
  rintro e w' ⟨rfl, g, c, t⟩
  exact ⟨rfl, told_keep t h.oB (fun b e => h6 b (.inl e)), ⟨t.n, h.kNumber.stay (by decide) (by decide) (by decide) (by decide) h2.ent t, Kd.tell h1 h2 h3 h4 h5 h6 h.bB h.oB t hl hx hnl ⟨xl, rfl⟩, fun q q1 q2 p0 p1 => (t.oth q (by omega) p1).trans (h.em q q1 q2 p0 p1), fun q => (t.fz q).trans (h.fz q), h.SB, Nat.lt_of_lt_of_le h.bB t.keep.size, .inl h.oB⟩⟩
/-- What it was told is apart; what is not its own stays. -/
theorem BwNR.apart {S B nn : Nat} {own : Nat → Prop} {W : World} (h : BwNR S B nn own W) (hn : nn ≤ 3000000) :
    Calls Tryz.prog 19 #[.pointer (some ⟨B, 0, none⟩)] W fun e w' => e = .returned (.bool true) ∧ KeepP own W w' := by
  obtain ⟨sNumber, kNumber, cNumber, dNumber⟩ := h.kNumber.isNumber h.SB h.bB hn
  obtain ⟨sRange, kRange, cRange, dRange⟩ := h.kRange.isRange h.SB h.bB hn
  have key : ∀ j b, stOf (fun _ => False) sNumber (fun _ => False) (fun _ => False) (fun _ => False) sRange (fun _ => False) (fun _ => False) (fun _ => False) (fun _ => False) (fun _ => False) (fun _ => False) j b → (j = 2 ∧ sNumber b) ∨ (j = 6 ∧ sRange b) := by
    intro j b e
    unfold stOf at e
    split at e
    · exact e.elim
    · exact .inl ⟨rfl, e⟩
    · exact e.elim
    · exact e.elim
    · exact e.elim
    · exact .inr (⟨rfl, e⟩)
    · exact e.elim
    · exact e.elim
    · exact e.elim
    · exact e.elim
    · exact e.elim
    · exact e.elim
    · exact e.elim
  refine Calls.mono (apart_all (noneByte S B W.heap.size) kNumber (noneInt S B W.heap.size) (noneText S B W.heap.size) (noneBlob S B W.heap.size) kRange (noneFrame S B W.heap.size) (noneField S B W.heap.size) (noneMessage S B W.heap.size) (noneRule S B W.heap.size) (noneEvent S B W.heap.size) (noneReply S B W.heap.size) (fun i j hij b e1 e2 => ?_) W W ⟨⟨h.em 1 (by decide) (by decide) (by decide) (by decide), h.bB⟩, cNumber, ⟨h.em 3 (by decide) (by decide) (by decide) (by decide), h.bB⟩, ⟨h.em 4 (by decide) (by decide) (by decide) (by decide), h.bB⟩, ⟨h.em 5 (by decide) (by decide) (by decide) (by decide), h.bB⟩, cRange, ⟨h.em 7 (by decide) (by decide) (by decide) (by decide), h.bB⟩, ⟨h.em 8 (by decide) (by decide) (by decide) (by decide), h.bB⟩, ⟨h.em 9 (by decide) (by decide) (by decide) (by decide), h.bB⟩, ⟨h.em 10 (by decide) (by decide) (by decide) (by decide), h.bB⟩, ⟨h.em 11 (by decide) (by decide) (by decide) (by decide), h.bB⟩, ⟨h.em 12 (by decide) (by decide) (by decide) (by decide), h.bB⟩, h.bB, Nat.le_refl _, Nat.le_trans h.SB (Nat.le_of_lt h.bB), KeepP.refl _ _⟩) ?_
  · rcases key i b e1 with ⟨rfl, e1⟩ | ⟨rfl, e1⟩ <;> rcases key j b e2 with ⟨rfl, e2⟩ | ⟨rfl, e2⟩
    · exact hij rfl
    · rcases (dNumber b e1).2 with q | q <;> rcases (dRange b e2).2 with r | r <;> exact absurd (q.eq r) (by decide)
    · rcases (dRange b e1).2 with q | q <;> rcases (dNumber b e2).2 with r | r <;> exact absurd (q.eq r) (by decide)
    · exact hij rfl
  · rintro e w' ⟨rfl, k⟩
    refine ⟨rfl, keep_mono k fun b ⟨j, _, _, e⟩ => ?_⟩
    rcases key j b e with ⟨_, e⟩ | ⟨_, e⟩
    · exact (dNumber b e).1
    · exact (dRange b e).1
end Go.Proofs.YtohoieleakieeaaGreatDoor.Bw
