/-
  What the package's variables hold.
-/
import Derived.Test.YtlicflmpakkccaaDoorGk3
import Derived.Test.YtlicflmpakkccaaDoorGkChaOps
namespace Go.Proofs.YtlicflmpakkccaaDoor
open Go Go.RowKit

/-- The cells of numbers. -/
def is (xs : List Nat) : Array Value := (xs.map fun (x : Nat) => Value.int .i64 (x : Int)).toArray
theorem is_size (xs : List Nat) : (is xs).size = xs.length := by simp [is]
theorem is_one (xs : List Nat) : (is xs).all (·.oneCell') = true := by simp [is, Value.oneCell']
theorem is_get (xs : List Nat) (j : Nat) (h : j < xs.length) : (is xs)[j]? = some (.int .i64 (gn xs j : Int)) := by simp [is, gn, h]
/-- What the package's variables hold. -/
structure Glob (w : World) : Prop where
  beg : ∃ t fr, w.heap[0]? = some (.cells (ws BEG) t fr)
  qu : ∃ t fr, w.heap[1]? = some (.cells (is QN) t fr)
theorem Glob.lt {w : World} (h : Glob w) : 0 < w.heap.size ∧ 1 < w.heap.size := by
  obtain ⟨⟨t, fr, h1⟩, ⟨t', fr', h2⟩⟩ := h
  exact ⟨(Array.getElem?_eq_some_iff.1 h1).1, (Array.getElem?_eq_some_iff.1 h2).1⟩
theorem Glob.below {w w' : World} {n : Nat} (h : Glob w) (hb : Below n w w') (hn : w.heap.size ≤ n) : Glob w' := by
  have hl := h.lt
  obtain ⟨⟨t, fr, h1⟩, ⟨t', fr', h2⟩⟩ := h
  exact ⟨⟨t, fr, (hb.block _ (by omega)).trans h1⟩, ⟨t', fr', (hb.block _ (by omega)).trans h2⟩⟩

theorem qi_part (k : Nat) (hk : k < 8) : (is QN).extract (k * 4) (k * 4 + 4) = #[.int .i64 (qi k 0 : Nat), .int .i64 (qi k 1 : Nat), .int .i64 (qi k 2 : Nat), .int .i64 (qi k 3 : Nat)] := by
  match k, hk with
  | 0, _ => rfl
  | 1, _ => rfl
  | 2, _ => rfl
  | 3, _ => rfl
  | 4, _ => rfl
  | 5, _ => rfl
  | 6, _ => rfl
  | 7, _ => rfl
theorem qi_lt (k : Nat) (hk : k < 8) (j : Nat) (hj : j < 4) : qi k j < 16 := by
  have h : ∀ k : Fin 8, ∀ j : Fin 4, qi k.1 j.1 < 16 := by decide +kernel
  exact h ⟨k, hk⟩ ⟨j, hj⟩

end Go.Proofs.YtlicflmpakkccaaDoor
