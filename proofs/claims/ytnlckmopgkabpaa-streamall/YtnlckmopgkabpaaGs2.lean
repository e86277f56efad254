/-
  Out of HkIn, ShaLoop, HkLoop, RgLoop, HfLoop, LgLoop.
-/
import Derived.Test.YtnlckmopgkabpaaGsShaIn
import Derived.OrdersIn

/-! A region inside a fence that draws its order: operations that come up alone, and many that only read. Written by mkquiet.py. -/
namespace Go.Proofs.Ytnlckmopgkabpaa
open Go Go.RowKit

section
variable {F : Fence} {n : Nat} {P : Program} {ops : Array Oper} {Q : Exit → Act → World → Prop} {md : Region.Mode} {fuel : Nat} {listed : Array Bool} {a : Act} {w : World}
theorem about_builtin {o : Oper} (b : Builtin) (args : Array Operand) (tys : Array TypeId) (ho : o.op = .call { callee := .builtin b, args := args, argTypes := tys }) : o.about P w a.eval = none := by
  unfold Oper.about
  simp only [ho, resolve, Sem.run_pure]
  rfl
theorem OI_value {o : Oper} {i : Nat} {K : Act → World → Prop} (hi : ops[i]? = some o) (hw : Region.wanted o (yielded ops a.tmps) = true) (hab : o.about P w a.eval = none) (hd : ∀ c, o.op ≠ .defer c) (v : Value) (w' : World)
    (he : (execOp a.eval o).run P w = .ok (.value v) w') (h : K (a.put o.dst v) w') : wpOpIn F n P ops Q i K a w := by
  unfold wpOpIn
  simp only [hi, hw, if_true]
  unfold Oper.wpIn
  refine ⟨fun f hf => (by rw [hab] at hf; cases hf), ?_⟩
  rw [Oper.semAt_eq _ _ _ hd, he]
  exact h
theorem OI_skip {o : Oper} {i : Nat} {K : Act → World → Prop} (hi : ops[i]? = some o) (hw : Region.wanted o (yielded ops a.tmps) = true) (hab : o.about P w a.eval = none) (hd : ∀ c, o.op ≠ .defer c) (w' : World)
    (he : (execOp a.eval o).run P w = .ok .skip w') (h : K (a.put o.dst undef) w') : wpOpIn F n P ops Q i K a w := by
  unfold wpOpIn
  simp only [hi, hw, if_true]
  unfold Oper.wpIn
  refine ⟨fun f hf => (by rw [hab] at hf; cases hf), ?_⟩
  rw [Oper.semAt_eq _ _ _ hd, he]
  exact h
theorem OI_call {o : Oper} {i : Nat} {K : Act → World → Prop} (hi : ops[i]? = some o) (hw : Region.wanted o (yielded ops a.tmps) = true) (hd : ∀ c, o.op ≠ .defer c) (f : Nat) (args : Array Value) (hab : ∀ g, o.about P w a.eval = some g → F.fn g)
    (he : (execOp a.eval o).run P w = .ok (.enter f args) w) (hn : 1 ≤ n) (hc : CallsIn F (n - 1) P f args w fun e w' => ∃ v, e = .returned v ∧ K (a.put o.dst v) w') : wpOpIn F n P ops Q i K a w := by
  unfold wpOpIn
  simp only [hi, hw, if_true]
  unfold Oper.wpIn
  refine ⟨hab, ?_⟩
  rw [Oper.semAt_eq _ _ _ hd, he]
  exact ⟨fun _ => hn, hc.mono (by rintro e w' ⟨v, rfl, h⟩; exact h)⟩
end

end Go.Proofs.Ytnlckmopgkabpaa

/-! A range over a function whose iterator writes into memory of its own between two rounds, and whose body writes one block alone and is never left early. -/
namespace Go.Proofs.Ytnlckmopgkabpaa
open Go Go.RowKit Go.Shelf

theorem veil {p : Prop} (h : p) : Hid p := h
/-- All blocks but one lie as they lay. -/
structure Keep1 (st : Nat) (W W' : World) : Prop where
  os : W'.os = W.os
  tape : W'.tape = W.tape
  output : W'.output = W.output
  size : W.heap.size ≤ W'.heap.size
  block : ∀ k, k < W.heap.size → k ≠ st → W'.heap[k]? = W.heap[k]?

theorem Keep1.refl (st : Nat) (W : World) : Keep1 st W W := ⟨rfl, rfl, rfl, Nat.le_refl _, fun _ _ _ => rfl⟩
theorem Keep1.trans {st : Nat} {A B C : World} (h : Keep1 st A B) (k : Keep1 st B C) : Keep1 st A C :=
  ⟨k.os.trans h.os, k.tape.trans h.tape, k.output.trans h.output, Nat.le_trans h.size k.size, fun i hi hs => (k.block i (Nat.lt_of_lt_of_le hi h.size) hs).trans (h.block i hi hs)⟩
theorem Keep1.of_below {st : Nat} {W W' : World} (h : Below W.heap.size W W') : Keep1 st W W' := ⟨h.os, h.tape, h.output, h.size, fun k hk _ => h.block k hk⟩
theorem Keep1.setRow (st : Nat) (W : World) (cs : Array Value) : Keep1 st W (W.setRow st cs) := ⟨rfl, rfl, rfl, by rw [setRow_size]; exact Nat.le_refl _, fun k _ hk => setRow_other W st k cs hk⟩
theorem Keep1.below {st B : Nat} {W W' : World} (h : Keep1 st W W') (hB : B ≤ st) (hs : B ≤ W.heap.size) : Below B W W' := ⟨h.os, h.tape, h.output, h.size, fun k hk => h.block k (by omega) (by omega)⟩
theorem Keep1.row {st g : Nat} {W W' : World} {t : TypeId} {cs : Array Value} (h : Keep1 st W W') (hr : Row W g t cs) (hg : g ≠ st) : Row W' g t cs := (h.block g hr.lt hg).trans hr
section
variable {F : Fence} {n : Nat} {P : Program}

end
theorem Keep1.cell {st g o : Nat} {W W' : World} (h : Keep1 st W W') (hg : g < W.heap.size) (hne : g ≠ st) : W'.cell? ⟨g, o, none⟩ = W.cell? ⟨g, o, none⟩ := World.cell?_of_block (w := W) (h.block g hg hne)
end Go.Proofs.Ytnlckmopgkabpaa

/-! A range over a function whose iterator writes into memory of its own between two rounds, and whose body writes some blocks alone and is never left early. -/
namespace Go.Proofs.Ytnlckmopgkabpaa
open Go Go.RowKit Go.Shelf

/-- All blocks but some lie as they lay. -/
structure KeepP (st : Nat → Prop) (W W' : World) : Prop where
  os : W'.os = W.os
  tape : W'.tape = W.tape
  output : W'.output = W.output
  size : W.heap.size ≤ W'.heap.size
  block : ∀ k, k < W.heap.size → ¬ st k → W'.heap[k]? = W.heap[k]?

theorem KeepP.refl (st : Nat → Prop) (W : World) : KeepP st W W := ⟨rfl, rfl, rfl, Nat.le_refl _, fun _ _ _ => rfl⟩
theorem KeepP.trans {st : Nat → Prop} {A B C : World} (h : KeepP st A B) (k : KeepP st B C) : KeepP st A C :=
  ⟨k.os.trans h.os, k.tape.trans h.tape, k.output.trans h.output, Nat.le_trans h.size k.size, fun i hi hs => (k.block i (Nat.lt_of_lt_of_le hi h.size) hs).trans (h.block i hi hs)⟩
theorem KeepP.of_below {st : Nat → Prop} {W W' : World} (h : Below W.heap.size W W') : KeepP st W W' := ⟨h.os, h.tape, h.output, h.size, fun k hk _ => h.block k hk⟩
theorem KeepP.setRow {st : Nat → Prop} {g : Nat} (hg : st g) (W : World) (cs : Array Value) : KeepP st W (W.setRow g cs) := ⟨rfl, rfl, rfl, by rw [setRow_size]; exact Nat.le_refl _, fun k _ hk => setRow_other W g k cs (fun e => hk (e ▸ hg))⟩
theorem KeepP.setCell {st : Nat → Prop} {g : Nat} (hg : st g) (W : World) (o : Nat) (v : Value) : KeepP st W (W.setCell ⟨g, o, none⟩ v) := ⟨rfl, rfl, rfl, by simp [World.setCell], fun k _ hk => Below.heap_setCell W _ v k (fun e => hk (e ▸ hg))⟩
theorem KeepP.grown {st : Nat → Prop} {g : Nat} (hg : st g) {W W' : World} (h : W.grownBy W' (some g)) : KeepP st W W' := ⟨h.os, h.tape, h.output, h.size, fun k hk hs => h.block k hk (fun e => by injection e with e; exact hs (e ▸ hg))⟩
theorem KeepP.below {st : Nat → Prop} {B : Nat} {W W' : World} (h : KeepP st W W') (hB : ∀ k, st k → B ≤ k) (hs : B ≤ W.heap.size) : Below B W W' := ⟨h.os, h.tape, h.output, h.size, fun k hk => h.block k (by omega) (fun e => by have := hB k e; omega)⟩
theorem KeepP.row {st : Nat → Prop} {g : Nat} {W W' : World} {t : TypeId} {cs : Array Value} (h : KeepP st W W') (hr : Row W g t cs) (hg : ¬ st g) : Row W' g t cs := (h.block g hr.lt hg).trans hr

section
variable {F : Fence} {n : Nat} {P : Program}

end
end Go.Proofs.Ytnlckmopgkabpaa

/-! A range over a function that goes from state to state; its body may write what was made behind the loop's beginning, and may leave by a return. -/
namespace Go.Proofs.Ytnlckmopgkabpaa
open Go Go.RowKit Go.Shelf

/-- The first blocks, but for some, lie as they lay. -/
structure KeepB (B : Nat) (st : Nat → Prop) (W W' : World) : Prop where
  os : W'.os = W.os
  tape : W'.tape = W.tape
  output : W'.output = W.output
  size : W.heap.size ≤ W'.heap.size
  block : ∀ k, k < B → ¬ st k → W'.heap[k]? = W.heap[k]?
theorem KeepB.refl (B : Nat) (st : Nat → Prop) (W : World) : KeepB B st W W := ⟨rfl, rfl, rfl, Nat.le_refl _, fun _ _ _ => rfl⟩
theorem KeepB.trans {B : Nat} {st : Nat → Prop} {A C D : World} (h : KeepB B st A C) (k : KeepB B st C D) : KeepB B st A D :=
  ⟨k.os.trans h.os, k.tape.trans h.tape, k.output.trans h.output, Nat.le_trans h.size k.size, fun i hi hs => (k.block i hi hs).trans (h.block i hi hs)⟩
theorem KeepB.of_below {B : Nat} {st : Nat → Prop} {W W' : World} (h : Below B W W') : KeepB B st W W' := ⟨h.os, h.tape, h.output, h.size, fun k hk _ => h.block k hk⟩
theorem KeepB.mono {B C : Nat} {st : Nat → Prop} {W W' : World} (h : KeepB B st W W') (hc : C ≤ B) : KeepB C st W W' := ⟨h.os, h.tape, h.output, h.size, fun k hk hs => h.block k (by omega) hs⟩
theorem KeepB.setCell {B : Nat} {st : Nat → Prop} {g : Nat} (hg : st g ∨ B ≤ g) (W : World) (o : Nat) (v : Value) : KeepB B st W (W.setCell ⟨g, o, none⟩ v) :=
  ⟨rfl, rfl, rfl, by simp [World.setCell], fun k hk hs => Below.heap_setCell W _ v k (fun e => hg.elim (fun h => hs (by rw [e]; exact h)) (fun h => by simp only at e; omega))⟩

section
variable {F : Fence} {n : Nat} {P : Program}
end
end Go.Proofs.Ytnlckmopgkabpaa

/-! A range over a function, where the iterator has memory of its own that the body leaves alone (the blocks M), and the body has memory of its own that the iterator leaves alone; the body may leave by a return. -/
namespace Go.Proofs.Ytnlckmopgkabpaa
open Go Go.RowKit Go.Shelf

/-- What a round leaves: the first blocks, but for some, and the iterator's. -/
structure KeepY (B : Nat) (st M : Nat → Prop) (W W' : World) : Prop where
  os : W'.os = W.os
  tape : W'.tape = W.tape
  output : W'.output = W.output
  size : W.heap.size ≤ W'.heap.size
  block : ∀ k, k < W.heap.size → (k < B ∧ ¬ st k ∨ M k) → W'.heap[k]? = W.heap[k]?
theorem KeepY.refl (B : Nat) (st M : Nat → Prop) (W : World) : KeepY B st M W W := ⟨rfl, rfl, rfl, Nat.le_refl _, fun _ _ _ => rfl⟩
theorem KeepY.trans {B : Nat} {st M : Nat → Prop} {A C D : World} (h : KeepY B st M A C) (k : KeepY B st M C D) : KeepY B st M A D :=
  ⟨k.os.trans h.os, k.tape.trans h.tape, k.output.trans h.output, Nat.le_trans h.size k.size, fun i hi hs => (k.block i (Nat.lt_of_lt_of_le hi h.size) hs).trans (h.block i hi hs)⟩
theorem KeepY.of_below {B : Nat} {st M : Nat → Prop} {W W' : World} (h : Below W.heap.size W W') : KeepY B st M W W' := ⟨h.os, h.tape, h.output, h.size, fun k hk _ => h.block k hk⟩
theorem KeepY.setCell {B : Nat} {st M : Nat → Prop} {g : Nat} (hg : st g ∨ B ≤ g) (hm : ¬ M g) (W : World) (o : Nat) (v : Value) : KeepY B st M W (W.setCell ⟨g, o, none⟩ v) :=
  ⟨rfl, rfl, rfl, by simp [World.setCell], fun k _ hk => Below.heap_setCell W _ v k (fun e => by
    simp only at e
    subst e
    rcases hk with ⟨h1, h2⟩ | h
    · exact hg.elim h2 (fun h => by omega)
    · exact hm h)⟩
/-- What the iterator leaves: all that is not its own. -/
structure KeepM (M : Nat → Prop) (W W' : World) : Prop where
  os : W'.os = W.os
  tape : W'.tape = W.tape
  output : W'.output = W.output
  size : W.heap.size ≤ W'.heap.size
  block : ∀ k, k < W.heap.size → ¬ M k → W'.heap[k]? = W.heap[k]?
theorem KeepM.of_below {M : Nat → Prop} {W W' : World} (h : Below W.heap.size W W') : KeepM M W W' := ⟨h.os, h.tape, h.output, h.size, fun k hk _ => h.block k hk⟩
section
variable {P : Program}
end
end Go.Proofs.Ytnlckmopgkabpaa

/-! A range over a function, where the iterator has memory of its own, old blocks (M0) and new ones, that the body leaves alone, and the body has memory of its own that the iterator leaves alone; the body goes on always. What the iterator leaves in its own memory is told at the end. -/
namespace Go.Proofs.Ytnlckmopgkabpaa
open Go Go.RowKit Go.Shelf

section
variable {P : Program}
end
end Go.Proofs.Ytnlckmopgkabpaa
