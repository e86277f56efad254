/-
  Out of PkVals, FlMem, RgVr, LgRow, FrSeq, FrSpine, RgLoop, HfLoop, LgLoop, LgTool.
-/
import Derived.Test.YtjccjlhnjihfjaaDoorGh10
import Derived.Test.YtjccjlhnjihfjaaDoorGh11
import Derived.Maps.AppendAt
import Derived.ArgAppend
import Derived.Laws.OwnMore
import Derived.Deep.AppendLies
import Derived.Test.YtjccjlhnjihfjaaDoorGh1
import Derived.Great.BuildSlice

/-! A region that draws its order, reads and calls, whose slots may hold anything ahead of it. No program in sight. -/
namespace Go.Proofs.YtjccjlhnjihfjaaDoor
open Go Go.RowKit

section
variable {F : Fence} {n : Nat} {P : Program} {ops : Array Oper} {Q : Exit → Act → World → Prop} {md : Region.Mode}
end
end Go.Proofs.YtjccjlhnjihfjaaDoor

/-! A region that draws its order: reads, a call, one store, and what comes behind it. No program in sight. -/
namespace Go.Proofs.YtjccjlhnjihfjaaDoor
open Go Go.RowKit

section
variable {F : Fence} {n : Nat} {P : Program} {ops : Array Oper} {Q : Exit → Act → World → Prop} {md : Region.Mode}
end
end Go.Proofs.YtjccjlhnjihfjaaDoor

/-! Ranges in a row of the call's own. -/
namespace Go.Proofs.YtjccjlhnjihfjaaDoor
open Go Go.RowKit

end Go.Proofs.YtjccjlhnjihfjaaDoor

/-! A list in memory that may begin in the middle of its block, and may be shorter than it. No function of the program in sight. -/
namespace Go.Proofs.YtjccjlhnjihfjaaDoor
open Go Go.RowKit

def RowO (w : World) (e : TypeId) (size : Nat) (v : Value) (n : Nat) (xs : List Value) : Prop :=
  xs.length = n * size ∧
  ((v = .slice none 0 0 ∧ n = 0) ∨
   ∃ g o cap cur, v = .slice (some ⟨g, o, none⟩) n cap ∧ w.heap[g]? = some (.cells cur e (0, 0)) ∧ n ≤ cap ∧ cap ≤ maxLen ∧ o + cap * size ≤ cur.size ∧ (cur.toList.drop o).take (n * size) = xs)
section
variable {w w' : World} {e : TypeId} {size : Nat} {v : Value} {n : Nat} {xs : List Value}
theorem RowO.nil (w : World) (e : TypeId) (size : Nat) : RowO w e size (.slice none 0 0) 0 [] := ⟨by simp, .inl ⟨rfl, rfl⟩⟩
theorem RowO.of_own {base : Nat} (h : w.ownsRow base e size v n xs) : RowO w e size v n xs := by
  refine ⟨h.1, ?_⟩
  rcases h.2 with h2 | ⟨g, cap, cur, h1, h2, h3, h4, h5, h6, h7⟩
  · exact .inl h2
  · exact .inr ⟨g, 0, cap, cur, h1, h3, h4, h5, by rw [h6]; omega, by rw [List.drop_zero]; exact h7⟩
theorem RowO.lt (h : RowO w e size v n xs) : ∀ k, v.ownBlock = some k → k < w.heap.size := by
  intro k hk
  rcases h.2 with ⟨rfl, _⟩ | ⟨g, o, cap, cur, rfl, hg, _⟩
  · simp [Value.ownBlock] at hk
  · simp [Value.ownBlock] at hk
    subst hk
    exact (Array.getElem?_eq_some_iff.1 hg).1
theorem RowO.same (h : RowO w e size v n xs) (hk : ∀ k, v.ownBlock = some k → w'.heap[k]? = w.heap[k]?) : RowO w' e size v n xs := by
  refine ⟨h.1, ?_⟩
  rcases h.2 with hn | ⟨g, o, cap, cur, rfl, hg, rest⟩
  · exact .inl hn
  · exact .inr ⟨g, o, cap, cur, rfl, (hk g rfl).trans hg, rest⟩
theorem RowO.below (h : RowO w e size v n xs) (hb : Below w.heap.size w w') : RowO w' e size v n xs := h.same (fun k hk => hb.block k (h.lt k hk))
theorem RowO.shape (h : RowO w e size v n xs) : ∃ a cap, v = .slice a n cap ∧ n ≤ cap ∧ cap ≤ maxLen := by
  rcases h.2 with ⟨rfl, rfl⟩ | ⟨g, o, cap, cur, rfl, _, h1, h2, _⟩
  · exact ⟨none, 0, rfl, Nat.le_refl _, by decide⟩
  · exact ⟨_, cap, rfl, h1, h2⟩
theorem RowO.cells {a : Option Addr} {cap : Nat} (h : RowO w e size (.slice a n cap) n xs) : ∀ j u, xs[j]? = some u → ∃ g o, a = some ⟨g, o, none⟩ ∧ w.cell? ⟨g, o + j, none⟩ = some u := by
  intro j u hu
  rcases h.2 with ⟨_, rfl⟩ | ⟨g, o, cap', cur, h', hg, _, _, _, htake⟩
  · have := h.1
    simp at this
    subst this
    simp at hu
  · injection h' with e1 e2 e3
    refine ⟨g, o, e1, ?_⟩
    rw [cell_of_row w g (o + j) cur e (0, 0) hg]
    rw [← htake, List.getElem?_take] at hu
    split at hu
    · rw [List.getElem?_drop] at hu
      simpa using hu
    · cases hu
end
end Go.Proofs.YtjccjlhnjihfjaaDoor

/-! A region that draws its order, in which calls come one behind the other and each has one value, and all else has one value, whatever the order. No program in sight. -/
namespace Go.Proofs.YtjccjlhnjihfjaaDoor
open Go Go.RowKit

section
variable {F : Fence} {n : Nat} {P : Program} {ops : Array Oper} {Q : Exit → Act → World → Prop} {md : Region.Mode}
end
end Go.Proofs.YtjccjlhnjihfjaaDoor

/-! A region that draws its order, with a spine: operations that turn the world, one behind the other, each of which hands its value to the next; all else reads. No program in sight. -/
namespace Go.Proofs.YtjccjlhnjihfjaaDoor
open Go Go.RowKit

section
variable {F : Fence} {n : Nat} {P : Program} {ops : Array Oper} {Q : Exit → Act → World → Prop} {md : Region.Mode}
end
end Go.Proofs.YtjccjlhnjihfjaaDoor

/-! A range over a function that goes from state to state; its body may write what was made behind the loop's beginning, and may leave by a return. -/
namespace Go.Proofs.YtjccjlhnjihfjaaDoor
open Go Go.RowKit Go.Shelf

/-- The first blocks, but for some, lie as they lay. -/
structure KeepB (B : Nat) (st : Nat → Prop) (W W' : World) : Prop where
  os : W'.os = W.os
  tape : W'.tape = W.tape
  output : W'.output = W.output
  size : W.heap.size ≤ W'.heap.size
  block : ∀ k, k < B → ¬ st k → W'.heap[k]? = W.heap[k]?
theorem KeepB.refl (B : Nat) (st : Nat → Prop) (W : World) : KeepB B st W W := ⟨rfl, rfl, rfl, Nat.le_refl _, fun _ _ _ => rfl⟩
theorem KeepB.trans {B : Nat} {st : Nat → Prop} {A C D : World} (h : KeepB B st A C) (k : KeepB B st C D) : KeepB B st A D :=
  ⟨k.os.trans h.os, k.tape.trans h.tape, k.output.trans h.output, Nat.le_trans h.size k.size, fun i hi hs => (k.block i hi hs).trans (h.block i hi hs)⟩
theorem KeepB.of_below {B : Nat} {st : Nat → Prop} {W W' : World} (h : Below B W W') : KeepB B st W W' := ⟨h.os, h.tape, h.output, h.size, fun k hk _ => h.block k hk⟩
theorem KeepB.mono {B C : Nat} {st : Nat → Prop} {W W' : World} (h : KeepB B st W W') (hc : C ≤ B) : KeepB C st W W' := ⟨h.os, h.tape, h.output, h.size, fun k hk hs => h.block k (by omega) hs⟩
theorem KeepB.setCell {B : Nat} {st : Nat → Prop} {g : Nat} (hg : st g ∨ B ≤ g) (W : World) (o : Nat) (v : Value) : KeepB B st W (W.setCell ⟨g, o, none⟩ v) :=
  ⟨rfl, rfl, rfl, by simp [World.setCell], fun k hk hs => Below.heap_setCell W _ v k (fun e => hg.elim (fun h => hs (by rw [e]; exact h)) (fun h => by simp only at e; omega))⟩

section
variable {F : Fence} {n : Nat} {P : Program}
end
end Go.Proofs.YtjccjlhnjihfjaaDoor

/-! A range over a function, where the iterator has memory of its own that the body leaves alone (the blocks M), and the body has memory of its own that the iterator leaves alone; the body may leave by a return. -/
namespace Go.Proofs.YtjccjlhnjihfjaaDoor
open Go Go.RowKit Go.Shelf

/-- What a round leaves: the first blocks, but for some, and the iterator's. -/
structure KeepY (B : Nat) (st M : Nat → Prop) (W W' : World) : Prop where
  os : W'.os = W.os
  tape : W'.tape = W.tape
  output : W'.output = W.output
  size : W.heap.size ≤ W'.heap.size
  block : ∀ k, k < W.heap.size → (k < B ∧ ¬ st k ∨ M k) → W'.heap[k]? = W.heap[k]?
theorem KeepY.refl (B : Nat) (st M : Nat → Prop) (W : World) : KeepY B st M W W := ⟨rfl, rfl, rfl, Nat.le_refl _, fun _ _ _ => rfl⟩
theorem KeepY.trans {B : Nat} {st M : Nat → Prop} {A C D : World} (h : KeepY B st M A C) (k : KeepY B st M C D) : KeepY B st M A D :=
  ⟨k.os.trans h.os, k.tape.trans h.tape, k.output.trans h.output, Nat.le_trans h.size k.size, fun i hi hs => (k.block i (Nat.lt_of_lt_of_le hi h.size) hs).trans (h.block i hi hs)⟩
theorem KeepY.of_below {B : Nat} {st M : Nat → Prop} {W W' : World} (h : Below W.heap.size W W') : KeepY B st M W W' := ⟨h.os, h.tape, h.output, h.size, fun k hk _ => h.block k hk⟩
theorem KeepY.setCell {B : Nat} {st M : Nat → Prop} {g : Nat} (hg : st g ∨ B ≤ g) (hm : ¬ M g) (W : World) (o : Nat) (v : Value) : KeepY B st M W (W.setCell ⟨g, o, none⟩ v) :=
  ⟨rfl, rfl, rfl, by simp [World.setCell], fun k _ hk => Below.heap_setCell W _ v k (fun e => by
    simp only at e
    subst e
    rcases hk with ⟨h1, h2⟩ | h
    · exact hg.elim h2 (fun h => by omega)
    · exact hm h)⟩
/-- What the iterator leaves: all that is not its own. -/
structure KeepM (M : Nat → Prop) (W W' : World) : Prop where
  os : W'.os = W.os
  tape : W'.tape = W.tape
  output : W'.output = W.output
  size : W.heap.size ≤ W'.heap.size
  block : ∀ k, k < W.heap.size → ¬ M k → W'.heap[k]? = W.heap[k]?
theorem KeepM.of_below {M : Nat → Prop} {W W' : World} (h : Below W.heap.size W W') : KeepM M W W' := ⟨h.os, h.tape, h.output, h.size, fun k hk _ => h.block k hk⟩
section
variable {P : Program}
end
end Go.Proofs.YtjccjlhnjihfjaaDoor

/-! A range over a function, where the iterator has memory of its own, old blocks (M0) and new ones, that the body leaves alone, and the body has memory of its own that the iterator leaves alone; the body goes on always. What the iterator leaves in its own memory is told at the end. -/
namespace Go.Proofs.YtjccjlhnjihfjaaDoor
open Go Go.RowKit Go.Shelf

section
variable {P : Program}
end
end Go.Proofs.YtjccjlhnjihfjaaDoor

/-! Single operations for drawn regions. No program in sight. -/
namespace Go.Proofs.YtjccjlhnjihfjaaDoor
open Go Go.RowKit
section
variable {P : Program} {a : Act} {o : Oper}
theorem lgRun_copyB (ts : Array TypeId) (s y : Operand) (v u v' : Value) (W W' : World) (ho : o.op = .call { callee := .builtin .copy, args := #[s, y], argTypes := ts }) (hs : a.eval s = v) (hy : a.eval y = u) (h : (Builtin.copy_ ts o.type #[v, u]).run P W = .ok v' W') :
    (execOp a.eval o).run P W = .ok (.value v') W' := by
  unfold execOp
  simp only [ho, resolve, invoke, builtin, Sem.run_bind, Sem.run_pure, Result.andThen_ok, List.map_toArray, List.map_cons, List.map_nil, hs, hy, h]
theorem lgRun_copy (w : World) (dT sT ty elem : TypeId) (g o dLen dCap : Nat) (a : Addr) (sLen sCap size : Nat) (cur : Array Value) (t : TypeId) (cs : List Value)
    (hu : P.underlying dT = some (.slice elem)) (hs : (P.info? elem).map (·.size) = some size)
    (hg : w.heap[g]? = some (.cells cur t (0, 0))) (hn : cs.length = Nat.min sLen dLen * size)
    (hsrc : ∀ j v, cs[j]? = some v → w.cell? (a.add j) = some v) (hfit : o + cs.length ≤ cur.size) (h1 : ∀ v ∈ cs, v.oneCell' = true) :
    (Builtin.copy_ #[dT, sT] ty #[.slice (some ⟨g, o, none⟩) dLen dCap, .slice (some a) sLen sCap]).run P w =
      .ok (goInt (Nat.min sLen dLen)) (w.setRow g (cur.toList.take o ++ cs ++ cur.toList.drop (o + cs.length)).toArray) := by
  have hl := run_loadCells_list (P := P) w a cs hsrc
  have hst := run_storeCells_at P g o t cs 0 cur w hg (by simpa using hfit) h1
  rw [hn] at hl
  cases hq : P.info? elem with
  | none => simp [hq] at hs
  | some i =>
    have hi : i.size = size := by simpa [hq] using hs
    subst hi
    simp [Builtin.copy_, run_underlying hu, Builtin.lenOf, Builtin.firstCells, sizeOf, typeInfo, hq, hl, hst]
theorem lgRun_row (ty : TypeId) (x : Operand) (ho : o.op = .load ty x) (g : Nat) (hx : a.eval x = .pointer (some ⟨g, 0, none⟩)) (t : TypeId) (cs : Array Value) (n : Nat) (fs : Array Field)
    (hu : P.underlying ty = some (.struct fs)) (hi : (P.info? ty).map (·.size) = some n) (hc : cs.size = n) (W : World) (hg : Row W g t cs) : (execOp a.eval o).run P W = .ok (.value (.agg cs)) W := by
  unfold execOp
  simp only [ho, hx, Instr.loadAt, Instr.sureAddr, Sem.run_bind, Sem.run_pure, Result.andThen_ok, run_loadVar_row W g t ty cs (0, 0) _ hg hu rfl (by rw [hc]; exact hi)]
theorem RowO.one {w : World} {e : TypeId} {size : Nat} {v : Value} {n : Nat} {xs : List Value} (h : RowO w e size v n xs) : v.oneCell' = true := by
  obtain ⟨a, c, rfl, _⟩ := h.shape
  rfl
theorem KeepP.mono {st st' : Nat → Prop} {W W' : World} (h : KeepP st W W') (hs : ∀ k, st k → st' k) : KeepP st' W W' := ⟨h.os, h.tape, h.output, h.size, fun k hk hn => h.block k hk (fun e => hn (hs k e))⟩
end
end Go.Proofs.YtjccjlhnjihfjaaDoor
