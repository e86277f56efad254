/-
  What each kind of lists of a Book keeps to. Written by mkbkk.py.
-/
import Derived.Test.YtaighdppemnglaaGreatDoorGfBkApart
namespace Go.Proofs.YtaighdppemnglaaGreatDoor.Ba
open Go Go.RowKit
open Go.Proofs.YtaighdppemnglaaGreatDoor.Bq (OwnB own_keepP below_keepP keep_grown keep_below Sep)

theorem keep_mono {s t : Nat → Prop} {W W' : World} (h : KeepP s W W') (hst : ∀ b, s b → t b) : KeepP t W W' := ⟨h.os, h.tape, h.output, h.size, fun b hb hn => h.block b hb (fun e => hn (hst b e))⟩

/-- No list of this kind. -/
def noneByte (S B H : Nat) : Kind S B H 33 45 57 (fun _ => False) where
  K := fun _ W => W.cell? ⟨B, 1, none⟩ = some (.slice none 0 0) ∧ B < W.heap.size
  fill := fun W h => (fillByte_none B W h.1).mono fun _ _ ⟨h1, h2⟩ => ⟨h1, by rw [h2]; exact h, by rw [h2]; exact KeepP.refl _ _⟩
  grow := fun W h _ => (growByte_none B W h.1).mono fun _ _ ⟨h1, h2⟩ => ⟨h1, by rw [h2]; exact h, by rw [h2]; exact KeepP.refl _ _⟩
  look := fun W h => (lookByte_none B W h.1).mono fun _ _ ⟨h1, h2⟩ => ⟨h1, by rw [h2]; exact ⟨rfl, rfl, rfl, Nat.le_refl _, fun _ _ _ => rfl⟩⟩
  keep := fun _ W W' st' h k hl => ⟨(World.cell?_of_block (w := W) (a := ⟨B, 1, none⟩) (k.block B h.2 (fun e => (hl B e).2.2.2 rfl))).trans h.1, Nat.lt_of_lt_of_le h.2 k.size⟩
  low := fun _ e => e.elim
/-- Some lists of this kind. -/
def kindByte (S B H h m cap : Nat) (nu : Nat → Nat) (E : Nat → Value) (N : Nat → Nat) (X : Nat → List Value) (w0 : World) (hnu : ∀ i, i < m → nu i ≤ 5000000) (hm : m ≤ 3000000) (hN : ∀ i, i < m → N i ≤ 5000000) (sep : Sep S B h m E) (hlow : ∀ i, i < m → ∀ b, (E i).ownBlock = some b → S ≤ b ∧ b < H) (hh : h < H) :
    Kind S B H 33 45 57 (fun b => Bq.OwnB m E b ∨ b = h) where
  K := fun i W => match i with
    | 0 => Bb.St S B h m cap nu E N (fun _ => .slice none 0 0) X w0 W
    | 1 => Bb.St S B h m cap nu E N (fun _ => .slice none 0 0) (fun i => List.replicate (N i) (Bb.mark (nu i))) w0 W
    | _ => ∃ Lg, Bb.St S B h m cap nu E N Lg (fun i => List.replicate (N i) (Bb.mark (nu i))) w0 W ∧ Bb.Gr S B h m m nu E N Lg W ∧ ∀ j, j < m → ∀ b, (Lg j).ownBlock = some b → Bq.OwnB m E b ∨ H ≤ b
  fill := fun W s => (Bb.fill_any S B h m cap nu E N _ X w0 W hnu hm hN (fun _ _ => rfl) sep s).mono fun _ _ ⟨h1, h2, h3⟩ => ⟨h1, h2, keep_mono h3 fun _ e => .inl e⟩
  grow := fun W s hW => (Bb.bk_grow_any S B h m cap nu E N _ w0 W hnu hm hN (fun _ _ => rfl) sep s).mono fun _ _ ⟨h1, Lg, h2, h3, h4, h5⟩ => ⟨h1, ⟨Lg, h2, h3, fun j hj b e => (h5 j hj b e).imp id (fun q => Nat.le_trans hW q)⟩, h4⟩
  look := fun W ⟨Lg, s, g, _⟩ => Bb.look_any S B h m cap nu E N Lg w0 W hnu hm hN s g
  keep := fun i W W' st' s k hl => by
    have h1 : ∀ b, st' b → S ≤ b := fun b e => (hl b e).1
    have h2 : ¬ st' B := fun e => (hl B e).2.2.2 rfl
    have h3 : ¬ st' h := fun e => (hl h e).2.2.1 (.inr rfl)
    have h4 : ∀ i, i < m → ∀ b, (E i).ownBlock = some b → ¬ st' b := fun i hi b hb e => (hl b e).2.2.1 (.inl ⟨i, hi, hb⟩)
    match i, s with
    | 0, s => exact Bb.St.keep s k h1 h2 h3 h4
    | 1, s => exact Bb.St.keep s k h1 h2 h3 h4
    | _ + 2, ⟨Lg, s, g, q⟩ =>
      refine ⟨Lg, Bb.St.keep s k h1 h2 h3 h4, Bb.Gr.keep g k (fun j hj b hb e => ?_), q⟩
      rcases q j hj b hb with hq | hq
      · exact (hl b e).2.2.1 (.inl hq)
      · have := (hl b e).2.1
        omega
  low := fun b e => by
    rcases e with ⟨i, hi, hb⟩ | rfl
    · exact ⟨(hlow i hi b hb).1, (hlow i hi b hb).2, fun e => sep.eB i hi (by rw [hb, e])⟩
    · exact ⟨sep.Sh, hh, fun e => sep.Bh e.symm⟩

/-- No list of this kind. -/
def noneRange (S B H : Nat) : Kind S B H 38 50 62 (fun _ => False) where
  K := fun _ W => W.cell? ⟨B, 6, none⟩ = some (.slice none 0 0) ∧ B < W.heap.size
  fill := fun W h => (fillRange_none B W h.1).mono fun _ _ ⟨h1, h2⟩ => ⟨h1, by rw [h2]; exact h, by rw [h2]; exact KeepP.refl _ _⟩
  grow := fun W h _ => (growRange_none B W h.1).mono fun _ _ ⟨h1, h2⟩ => ⟨h1, by rw [h2]; exact h, by rw [h2]; exact KeepP.refl _ _⟩
  look := fun W h => (lookRange_none B W h.1).mono fun _ _ ⟨h1, h2⟩ => ⟨h1, by rw [h2]; exact ⟨rfl, rfl, rfl, Nat.le_refl _, fun _ _ _ => rfl⟩⟩
  keep := fun _ W W' st' h k hl => ⟨(World.cell?_of_block (w := W) (a := ⟨B, 6, none⟩) (k.block B h.2 (fun e => (hl B e).2.2.2 rfl))).trans h.1, Nat.lt_of_lt_of_le h.2 k.size⟩
  low := fun _ e => e.elim
/-- Some lists of this kind. -/
def kindRange (S B H h m cap : Nat) (nu : Nat → Nat) (E : Nat → Value) (N : Nat → Nat) (X : Nat → List (Nat × Nat)) (w0 : World) (hnu : ∀ i, i < m → nu i ≤ 5000000) (hm : m ≤ 3000000) (hN : ∀ i, i < m → N i ≤ 5000000) (sep : Sep S B h m E) (hlow : ∀ i, i < m → ∀ b, (E i).ownBlock = some b → S ≤ b ∧ b < H) (hh : h < H) :
    Kind S B H 38 50 62 (fun b => Bq.OwnB m E b ∨ b = h) where
  K := fun i W => match i with
    | 0 => Bq.St S B h m cap nu E N (fun _ => .slice none 0 0) X w0 W
    | 1 => Bq.St S B h m cap nu E N (fun _ => .slice none 0 0) (fun i => List.replicate (N i) (Bq.mk (nu i))) w0 W
    | _ => ∃ Lg, Bq.St S B h m cap nu E N Lg (fun i => List.replicate (N i) (Bq.mk (nu i))) w0 W ∧ Bq.Gr S B h m m nu E N Lg W ∧ ∀ j, j < m → ∀ b, (Lg j).ownBlock = some b → Bq.OwnB m E b ∨ H ≤ b
  fill := fun W s => (Bq.fill_any S B h m cap nu E N _ X w0 W hnu hm hN (fun _ _ => rfl) sep s).mono fun _ _ ⟨h1, h2, h3⟩ => ⟨h1, h2, keep_mono h3 fun _ e => .inl e⟩
  grow := fun W s hW => (Bq.bk_grow_any S B h m cap nu E N _ w0 W hnu hm hN (fun _ _ => rfl) sep s).mono fun _ _ ⟨h1, Lg, h2, h3, h4, h5⟩ => ⟨h1, ⟨Lg, h2, h3, fun j hj b e => (h5 j hj b e).imp id (fun q => Nat.le_trans hW q)⟩, h4⟩
  look := fun W ⟨Lg, s, g, _⟩ => Bq.look_any S B h m cap nu E N Lg w0 W hnu hm hN s g
  keep := fun i W W' st' s k hl => by
    have h1 : ∀ b, st' b → S ≤ b := fun b e => (hl b e).1
    have h2 : ¬ st' B := fun e => (hl B e).2.2.2 rfl
    have h3 : ¬ st' h := fun e => (hl h e).2.2.1 (.inr rfl)
    have h4 : ∀ i, i < m → ∀ b, (E i).ownBlock = some b → ¬ st' b := fun i hi b hb e => (hl b e).2.2.1 (.inl ⟨i, hi, hb⟩)
    match i, s with
    | 0, s => exact Bq.St.keep s k h1 h2 h3 h4
    | 1, s => exact Bq.St.keep s k h1 h2 h3 h4
    | _ + 2, ⟨Lg, s, g, q⟩ =>
      refine ⟨Lg, Bq.St.keep s k h1 h2 h3 h4, Bq.Gr.keep g k (fun j hj b hb e => ?_), q⟩
      rcases q j hj b hb with hq | hq
      · exact (hl b e).2.2.1 (.inl hq)
      · have := (hl b e).2.1
        omega
  low := fun b e => by
    rcases e with ⟨i, hi, hb⟩ | rfl
    · exact ⟨(hlow i hi b hb).1, (hlow i hi b hb).2, fun e => sep.eB i hi (by rw [hb, e])⟩
    · exact ⟨sep.Sh, hh, fun e => sep.Bh e.symm⟩

/-- No list of this kind. -/
def noneFrame (S B H : Nat) : Kind S B H 39 51 63 (fun _ => False) where
  K := fun _ W => W.cell? ⟨B, 7, none⟩ = some (.slice none 0 0) ∧ B < W.heap.size
  fill := fun W h => (fillFrame_none B W h.1).mono fun _ _ ⟨h1, h2⟩ => ⟨h1, by rw [h2]; exact h, by rw [h2]; exact KeepP.refl _ _⟩
  grow := fun W h _ => (growFrame_none B W h.1).mono fun _ _ ⟨h1, h2⟩ => ⟨h1, by rw [h2]; exact h, by rw [h2]; exact KeepP.refl _ _⟩
  look := fun W h => (lookFrame_none B W h.1).mono fun _ _ ⟨h1, h2⟩ => ⟨h1, by rw [h2]; exact ⟨rfl, rfl, rfl, Nat.le_refl _, fun _ _ _ => rfl⟩⟩
  keep := fun _ W W' st' h k hl => ⟨(World.cell?_of_block (w := W) (a := ⟨B, 7, none⟩) (k.block B h.2 (fun e => (hl B e).2.2.2 rfl))).trans h.1, Nat.lt_of_lt_of_le h.2 k.size⟩
  low := fun _ e => e.elim
/-- Some lists of this kind. -/
def kindFrame (S B H h m cap : Nat) (nu : Nat → Nat) (E : Nat → Value) (N : Nat → Nat) (X : Nat → List (Nat → Value)) (w0 : World) (hnu : ∀ i, i < m → nu i ≤ 5000000) (hm : m ≤ 3000000) (hN : ∀ i, i < m → N i ≤ 5000000) (sep : Sep S B h m E) (hlow : ∀ i, i < m → ∀ b, (E i).ownBlock = some b → S ≤ b ∧ b < H) (hh : h < H) :
    Kind S B H 39 51 63 (fun b => Bq.OwnB m E b ∨ b = h) where
  K := fun i W => match i with
    | 0 => Bf.St S B h m cap nu E N (fun _ => .slice none 0 0) X w0 W
    | 1 => Bf.St S B h m cap nu E N (fun _ => .slice none 0 0) (fun i => List.replicate (N i) (Bf.mk (nu i))) w0 W
    | _ => ∃ Lg, Bf.St S B h m cap nu E N Lg (fun i => List.replicate (N i) (Bf.mk (nu i))) w0 W ∧ Bf.Gr S B h m m nu E N Lg W ∧ ∀ j, j < m → ∀ b, (Lg j).ownBlock = some b → Bq.OwnB m E b ∨ H ≤ b
  fill := fun W s => (Bf.fill_any S B h m cap nu E N _ X w0 W hnu hm hN (fun _ _ => rfl) sep s).mono fun _ _ ⟨h1, h2, h3⟩ => ⟨h1, h2, keep_mono h3 fun _ e => .inl e⟩
  grow := fun W s hW => (Bf.bk_grow_any S B h m cap nu E N _ w0 W hnu hm hN (fun _ _ => rfl) sep s).mono fun _ _ ⟨h1, Lg, h2, h3, h4, h5⟩ => ⟨h1, ⟨Lg, h2, h3, fun j hj b e => (h5 j hj b e).imp id (fun q => Nat.le_trans hW q)⟩, h4⟩
  look := fun W ⟨Lg, s, g, _⟩ => Bf.look_any S B h m cap nu E N Lg w0 W hnu hm hN s g
  keep := fun i W W' st' s k hl => by
    have h1 : ∀ b, st' b → S ≤ b := fun b e => (hl b e).1
    have h2 : ¬ st' B := fun e => (hl B e).2.2.2 rfl
    have h3 : ¬ st' h := fun e => (hl h e).2.2.1 (.inr rfl)
    have h4 : ∀ i, i < m → ∀ b, (E i).ownBlock = some b → ¬ st' b := fun i hi b hb e => (hl b e).2.2.1 (.inl ⟨i, hi, hb⟩)
    match i, s with
    | 0, s => exact Bf.St.keep s k h1 h2 h3 h4
    | 1, s => exact Bf.St.keep s k h1 h2 h3 h4
    | _ + 2, ⟨Lg, s, g, q⟩ =>
      refine ⟨Lg, Bf.St.keep s k h1 h2 h3 h4, Bf.Gr.keep g k (fun j hj b hb e => ?_), q⟩
      rcases q j hj b hb with hq | hq
      · exact (hl b e).2.2.1 (.inl hq)
      · have := (hl b e).2.1
        omega
  low := fun b e => by
    rcases e with ⟨i, hi, hb⟩ | rfl
    · exact ⟨(hlow i hi b hb).1, (hlow i hi b hb).2, fun e => sep.eB i hi (by rw [hb, e])⟩
    · exact ⟨sep.Sh, hh, fun e => sep.Bh e.symm⟩
end Go.Proofs.YtaighdppemnglaaGreatDoor.Ba
